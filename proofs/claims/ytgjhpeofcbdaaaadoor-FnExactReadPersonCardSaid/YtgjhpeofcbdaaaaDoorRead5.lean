/- Contract: impl.ReadPerson. -/
import Derived.Test.YtgjhpeofcbdaaaaDoorChecked
import Derived.Test.YtgjhpeofcbdaaaaDoorBase
import Derived.Test.YtgjhpeofcbdaaaaDoorPure42
import Derived.Test.YtgjhpeofcbdaaaaDoorSplit4
import Derived.Test.YtgjhpeofcbdaaaaDoorNums4
import Derived.Test.YtgjhpeofcbdaaaaDoorIsPers
import Derived.Test.YtgjhpeofcbdaaaaDoorPersLaw
import Derived.Test.YtgjhpeofcbdaaaaDoorText4
import Derived.Test.YtgjhpeofcbdaaaaDoorRead4
import Derived.Test.YtgjhpeofcbdaaaaDoorSpl
import Derived.WalkKit
import Derived.WalkSpells
import Derived.WalkLawsBesides
import Derived.Lib.Hide
import Derived.IntWalk
import Derived.RegionTactic
import Derived.Outline
namespace Go.Proofs.YtgjhpeofcbdaaaaDoor
open Go.RowKit Pure1 Pure3 Pure4 Pure7 Pure40 Pure41 Pure42

set_option maxRecDepth 100000 in
set_option maxHeartbeats 4000000 in
theorem implReadPerson_any (s : ByteArray) (w : World) (hs : s.size ≤ 1048576) (hM : MaxAt w) (hE : ErrsAt w) (hT : Tabs Tryd.prog w) :
    Calls Tryd.prog 11 #[.string s] w (SaysR (readR s) w) := by
  have hW := boxed w (.cells #[.int .i64 0, .string ⟨#[]⟩, .string ⟨#[]⟩, .int .i64 0, .int .i64 0] 25)
  have HR0 := Lib.hid (row_zero w 25)
  have HC := Lib.hid (show Calls Tryd.prog 26 #[.string s, .string ⟨#[47]⟩] (w.alloc (.cells #[.int .i64 0, .string ⟨#[]⟩, .string ⟨#[]⟩, .int .i64 0, .int .i64 0] 25)) (fun e w' => ∃ a cap, e = .returned (.slice a (partsS s).length cap) ∧ StrsAt w' a (partsS s) ∧ Below (w.alloc (.cells #[.int .i64 0, .string ⟨#[]⟩, .string ⟨#[]⟩, .int .i64 0, .int .i64 0] 25)).heap.size (w.alloc (.cells #[.int .i64 0, .string ⟨#[]⟩, .string ⟨#[]⟩, .int .i64 0, .int .i64 0] 25)) w') from by
    obtain ⟨m, hm⟩ := hM.below hW
    have hC := Tryd.strings_Split s slash m (w.alloc (.cells #[.int .i64 0, .string ⟨#[]⟩, .string ⟨#[]⟩, .int .i64 0, .int .i64 0] 25)) (by omega) hm (by decide)
    rw [splitB_partsS, ← partsS_length] at hC
    refine hC.mono ?_
    rintro e w' ⟨rfl, rfl⟩
    exact ⟨_, _, rfl, .inr ⟨_, 0, rfl, fun i x hx => by rw [Nat.zero_add]; exact alloc_strs4 _ _ _ i x hx⟩, boxed _ _⟩)
  have HE := Lib.hid hE; have HT := Lib.hid hT
  have HW := Lib.hid hW; clear hW hM hE hT
  go_enter Tryd.func11, Tryd.ntmps11
  go_wp2_with fail
  refine HC.out.mono ?_; rintro e w1 ⟨a, cap, rfl, hat, hB⟩
  have HB1 := Lib.hid (HW.out.trans (hB.mono HW.out.size)); have HR1 := Lib.hid (row_below HR0.out hB)
  have HAt := Lib.hid hat
  clear hB hat
  by_cases h5 : (partsS s).length = 5
  · obtain ⟨ta, tf, tl, tb, tz, hp5⟩ := five_of h5
    have hszs := partsS_sizes s
    rw [hp5] at hszs
    have za := hszs ta (by simp); have zf := hszs tf (by simp); have zl := hszs tl (by simp); have zb := hszs tb (by simp); have zz := hszs tz (by simp)
    have hn5 : (((partsS s).length : Int) != 5) = false := by rw [h5]; rfl
    have HP5 := Lib.hid hp5
    have hat := HAt.out
    rw [hp5] at hat
    have h5' : (partsS s).length = 5 := h5
    generalize (partsS s).length = len at h5' hn5 ⊢
    subst h5'
    clear h5 hszs hp5 HAt
    rcases hat with hnil | ⟨g, off, hga, hat⟩
    · cases hnil
    · subst hga
      have c0 := hat 0 ta rfl; have c1 := hat 1 tf rfl; have c2 := hat 2 tl rfl; have c3 := hat 3 tb rfl; have c4 := hat 4 tz rfl
      rw [Nat.add_zero] at c0
      have hgl : g < w1.heap.size := World.block_lt_of_cell? w1 _ c0
      have HCe := Lib.hid (show w1.cell? ⟨g, off + 1, none⟩ = some (.string tf) ∧ w1.cell? ⟨g, off + 2, none⟩ = some (.string tl) ∧ w1.cell? ⟨g, off + 3, none⟩ = some (.string tb) ∧ w1.cell? ⟨g, off + 4, none⟩ = some (.string tz) from ⟨c1, c2, c3, c4⟩)
      clear hat c1 c2 c3 c4
      go_wp2_with fail
      refine (implReadNumber_any ta w1 (by omega) (HE.out.below HB1.out) (HT.out.below Tryd.gPow HB1.out)).mono ?_; rintro e w2 ⟨n1, o1, rfl, hr1, hB⟩
      have HR2 := Lib.hid (row_below HR1.out hB); have HB2 := Lib.hid (HB1.out.trans (hB.mono HB1.out.size)); have HN1 := Lib.hid hr1
      obtain ⟨c1, c2, c3, c4⟩ := HCe.out
      have HCe := Lib.hid (show w2.cell? ⟨g, off + 1, none⟩ = some (.string tf) ∧ w2.cell? ⟨g, off + 2, none⟩ = some (.string tl) ∧ w2.cell? ⟨g, off + 3, none⟩ = some (.string tb) ∧ w2.cell? ⟨g, off + 4, none⟩ = some (.string tz) from ⟨cell_later hB c1, cell_later hB c2, cell_later hB c3, cell_later hB c4⟩)
      clear c1 c2 c3 c4 hB hr1 c0
      obtain ⟨c1, c2, c3, c4⟩ := HCe.out
      go_wp2_with fail
      clear c1 c2 c3 c4
      refine (implReadNumber_any tb w2 (by omega) (HE.out.below HB2.out) (HT.out.below Tryd.gPow HB2.out)).mono ?_; rintro e w3 ⟨n2, o2, rfl, hr2, hB⟩
      have HR3 := Lib.hid (row_below HR2.out hB); have HB3 := Lib.hid (HB2.out.trans (hB.mono HB2.out.size)); have HN2 := Lib.hid hr2
      obtain ⟨c1, c2, c3, c4⟩ := HCe.out
      have HCe := Lib.hid (show w3.cell? ⟨g, off + 1, none⟩ = some (.string tf) ∧ w3.cell? ⟨g, off + 2, none⟩ = some (.string tl) ∧ w3.cell? ⟨g, off + 3, none⟩ = some (.string tb) ∧ w3.cell? ⟨g, off + 4, none⟩ = some (.string tz) from ⟨cell_later hB c1, cell_later hB c2, cell_later hB c3, cell_later hB c4⟩)
      clear c1 c2 c3 c4 hB hr2 
      obtain ⟨c1, c2, c3, c4⟩ := HCe.out
      go_wp2_with fail
      clear c1 c2 c3 c4
      refine (implReadNumber_any tz w3 (by omega) (HE.out.below HB3.out) (HT.out.below Tryd.gPow HB3.out)).mono ?_; rintro e w4 ⟨n3, o3, rfl, hr3, hB⟩
      have HR4 := Lib.hid (row_below HR3.out hB); have HB4 := Lib.hid (HB3.out.trans (hB.mono HB3.out.size)); have HN3 := Lib.hid hr3
      obtain ⟨c1, c2, c3, c4⟩ := HCe.out
      have HCe := Lib.hid (show w4.cell? ⟨g, off + 1, none⟩ = some (.string tf) ∧ w4.cell? ⟨g, off + 2, none⟩ = some (.string tl) ∧ w4.cell? ⟨g, off + 3, none⟩ = some (.string tb) ∧ w4.cell? ⟨g, off + 4, none⟩ = some (.string tz) from ⟨cell_later hB c1, cell_later hB c2, cell_later hB c3, cell_later hB c4⟩)
      clear c1 c2 c3 c4 hB hr3 
      obtain ⟨c1, c2, c3, c4⟩ := HCe.out
      go_wp2_with fail
      clear c1 c2 c3 c4
      have HRd := Lib.hid (read_fact HP5.out (lo := (-9223372036854775808)) (hi := 9223372036854775807) (by omega) (by omega) HN1.out HN2.out HN3.out)
      obtain ⟨c1, c2, c3, c4⟩ := HCe.out
      have hgl4 : g < w4.heap.size := World.block_lt_of_cell? w4 _ c1
      clear c3 c4
      go_region
      have HAq := Lib.hid (atB_box w4 n1 tf tl n2 n3 25)
      have HBq := Lib.hid (HB4.out.alloc HB4.out.size (.cells #[.int .i64 n1, .string tf, .string tl, .int .i64 n2, .int .i64 n3] 25))
      have HRq := Lib.hid (HR4.out.alloc (.cells #[.int .i64 n1, .string tf, .string tl, .int .i64 n2, .int .i64 n3] 25))
      have HRL := Lib.hid HR4.out.lt
      clear c1 c2
      generalize w4.alloc (.cells #[.int .i64 n1, .string tf, .string tl, .int .i64 n2, .int .i64 n3] 25) = w5 at HAq HBq HRq ⊢
      have HA6 := Lib.hid (show AtB w5.drew w4.heap.size ⟨n1, tf, tl, n2, n3⟩ from HAq.out)
      have HB6 := Lib.hid (show Below w.heap.size w w5.drew from HBq.out.drew)
      have HR6 := Lib.hid (HRq.out.drew)
      have hbr : w4.heap.size ≠ w.heap.size := by have := HRL.out; omega
      generalize w5.drew = w6 at HA6 HB6 HR6 ⊢
      generalize w4.heap.size = bp at HA6 hbr ⊢
      clear hgl4
      cases o1
      · have HN := Lib.hid (show readR s = (zeroP, 6) from by
          rcases HRd.out with ⟨k1, k2, k3, k4, _⟩ | ⟨_, h⟩
          · cases k1
          · exact h)
        have d0 := HR6.out.cell (show 0 < 5 by omega); have d1 := HR6.out.cell (show 1 < 5 by omega); have d2 := HR6.out.cell (show 2 < 5 by omega); have d3 := HR6.out.cell (show 3 < 5 by omega); have d4 := HR6.out.cell (show 4 < 5 by omega)
        have e0 := HR6.out.frozen 0; have e1 := HR6.out.frozen 1; have e2 := HR6.out.frozen 2; have e3 := HR6.out.frozen 3; have e4 := HR6.out.frozen 4
        go_wp2_with fail
        (try simp only [Exit.inBlock, Exit.then])
        refine bodyPost_ret (v := .tuple #[.agg #[.int .i64 0, .string ⟨#[]⟩, .string ⟨#[]⟩, .int .i64 0, .int .i64 0], .int .i64 6]) ?_ rfl ⟨by rw [HN.out]; rfl, ?_⟩
        · rw [results_cell_tmp4 rfl]
          go_simp
        · (repeat' (first | exact HB6.out | refine Below.setCell ?_ ?_ _ | (simp <;> omega)))
      · cases o2
        · have HN := Lib.hid (show readR s = (zeroP, 6) from by
            rcases HRd.out with ⟨k1, k2, k3, k4, _⟩ | ⟨_, h⟩
            · cases k2
            · exact h)
          have d0 := HR6.out.cell (show 0 < 5 by omega); have d1 := HR6.out.cell (show 1 < 5 by omega); have d2 := HR6.out.cell (show 2 < 5 by omega); have d3 := HR6.out.cell (show 3 < 5 by omega); have d4 := HR6.out.cell (show 4 < 5 by omega)
          have e0 := HR6.out.frozen 0; have e1 := HR6.out.frozen 1; have e2 := HR6.out.frozen 2; have e3 := HR6.out.frozen 3; have e4 := HR6.out.frozen 4
          go_wp2_with fail
          (try simp only [Exit.inBlock, Exit.then])
          refine bodyPost_ret (v := .tuple #[.agg #[.int .i64 0, .string ⟨#[]⟩, .string ⟨#[]⟩, .int .i64 0, .int .i64 0], .int .i64 6]) ?_ rfl ⟨by rw [HN.out]; rfl, ?_⟩
          · rw [results_cell_tmp4 rfl]
            go_simp
          · (repeat' (first | exact HB6.out | refine Below.setCell ?_ ?_ _ | (simp <;> omega)))
        · cases o3
          · have HN := Lib.hid (show readR s = (zeroP, 6) from by
              rcases HRd.out with ⟨k1, k2, k3, k4, _⟩ | ⟨_, h⟩
              · cases k3
              · exact h)
            have d0 := HR6.out.cell (show 0 < 5 by omega); have d1 := HR6.out.cell (show 1 < 5 by omega); have d2 := HR6.out.cell (show 2 < 5 by omega); have d3 := HR6.out.cell (show 3 < 5 by omega); have d4 := HR6.out.cell (show 4 < 5 by omega)
            have e0 := HR6.out.frozen 0; have e1 := HR6.out.frozen 1; have e2 := HR6.out.frozen 2; have e3 := HR6.out.frozen 3; have e4 := HR6.out.frozen 4
            go_wp2_with fail
            (try simp only [Exit.inBlock, Exit.then])
            refine bodyPost_ret (v := .tuple #[.agg #[.int .i64 0, .string ⟨#[]⟩, .string ⟨#[]⟩, .int .i64 0, .int .i64 0], .int .i64 6]) ?_ rfl ⟨by rw [HN.out]; rfl, ?_⟩
            · rw [results_cell_tmp4 rfl]
              go_simp
            · (repeat' (first | exact HB6.out | refine Below.setCell ?_ ?_ _ | (simp <;> omega)))
          · cases hip : isPers ⟨n1, tf, tl, n2, n3⟩
            · have HN := Lib.hid (show readR s = (zeroP, 6) from by
                rcases HRd.out with ⟨k1, k2, k3, k4, _⟩ | ⟨_, h⟩
                · rw [hip] at k4; cases k4
                · exact h)
              obtain ⟨c0, c1, c2, c3, c4⟩ := HA6.out
              go_wp2_with fail
              clear c0 c1 c2 c3 c4
              refine (implIsPerson_any n1 tf tl n2 n3 w6 (by unfold maxLen; omega) (by unfold maxLen; omega)).mono ?_; rintro e w7 ⟨rfl, hB⟩
              have HR7 := Lib.hid (row_below HR6.out hB); have HB7 := Lib.hid (HB6.out.trans (hB.mono HB6.out.size)); have HA7 := Lib.hid (HA6.out.below hB)
              clear hB
              have d0 := HR7.out.cell (show 0 < 5 by omega); have d1 := HR7.out.cell (show 1 < 5 by omega); have d2 := HR7.out.cell (show 2 < 5 by omega); have d3 := HR7.out.cell (show 3 < 5 by omega); have d4 := HR7.out.cell (show 4 < 5 by omega)
              have e0 := HR7.out.frozen 0; have e1 := HR7.out.frozen 1; have e2 := HR7.out.frozen 2; have e3 := HR7.out.frozen 3; have e4 := HR7.out.frozen 4
              go_wp2_with fail
              (try simp only [Exit.inBlock, Exit.then])
              refine bodyPost_ret (v := .tuple #[.agg #[.int .i64 0, .string ⟨#[]⟩, .string ⟨#[]⟩, .int .i64 0, .int .i64 0], .int .i64 6]) ?_ rfl ⟨by rw [HN.out]; rfl, ?_⟩
              · rw [results_cell_tmp4 rfl]
                go_simp
              · (repeat' (first | exact HB7.out | refine Below.setCell ?_ ?_ _ | (simp <;> omega)))
            · have HN := Lib.hid (show readR s = (⟨n1, tf, tl, n2, n3⟩, 0) from by
                rcases HRd.out with ⟨_, _, _, _, h⟩ | ⟨h, _⟩
                · exact h
                · exact absurd ⟨rfl, rfl, rfl, hip⟩ h)
              obtain ⟨c0, c1, c2, c3, c4⟩ := HA6.out
              go_wp2_with fail
              clear c0 c1 c2 c3 c4
              refine (implIsPerson_any n1 tf tl n2 n3 w6 (by unfold maxLen; omega) (by unfold maxLen; omega)).mono ?_; rintro e w7 ⟨rfl, hB⟩
              have HR7 := Lib.hid (row_below HR6.out hB); have HB7 := Lib.hid (HB6.out.trans (hB.mono HB6.out.size)); have HA7 := Lib.hid (HA6.out.below hB)
              clear hB
              have d0 := HR7.out.cell (show 0 < 5 by omega); have d1 := HR7.out.cell (show 1 < 5 by omega); have d2 := HR7.out.cell (show 2 < 5 by omega); have d3 := HR7.out.cell (show 3 < 5 by omega); have d4 := HR7.out.cell (show 4 < 5 by omega)
              have e0 := HR7.out.frozen 0; have e1 := HR7.out.frozen 1; have e2 := HR7.out.frozen 2; have e3 := HR7.out.frozen 3; have e4 := HR7.out.frozen 4
              obtain ⟨c0, c1, c2, c3, c4⟩ := HA7.out
              simp only at c0 c1 c2 c3 c4
              go_wp2_with fail
              (try simp only [Exit.inBlock, Exit.then])
              refine bodyPost_ret (v := .tuple #[.agg #[.int .i64 n1, .string tf, .string tl, .int .i64 n2, .int .i64 n3], .int .i64 0]) ?_ rfl ⟨by rw [HN.out]; rfl, ?_⟩
              · rw [results_cell_tmp4 rfl]
                go_simp
              · (repeat' (first | exact HB7.out | refine Below.setCell ?_ ?_ _ | (simp <;> omega)))
  · have HN := Lib.hid (readR_no (s := s) (fun p _ e => h5 (by rw [e]; rfl)))
    have hn5 : (((partsS s).length : Int) != 5) = true := by rw [bne_iff_ne]; omega
    generalize (partsS s).length = len at hn5 ⊢
    clear h5
    have d0 := HR1.out.cell (show 0 < 5 by omega); have d1 := HR1.out.cell (show 1 < 5 by omega); have d2 := HR1.out.cell (show 2 < 5 by omega); have d3 := HR1.out.cell (show 3 < 5 by omega); have d4 := HR1.out.cell (show 4 < 5 by omega)
    have e0 := HR1.out.frozen 0; have e1 := HR1.out.frozen 1; have e2 := HR1.out.frozen 2; have e3 := HR1.out.frozen 3; have e4 := HR1.out.frozen 4
    go_wp2_with fail
    (try simp only [Exit.inBlock, Exit.then])
    refine bodyPost_ret (v := .tuple #[.agg #[.int .i64 0, .string ⟨#[]⟩, .string ⟨#[]⟩, .int .i64 0, .int .i64 0], .int .i64 6]) ?_ rfl ⟨by rw [HN.out]; rfl, ?_⟩
    · rw [results_cell_tmp4 rfl]
      go_simp
    · (repeat' (first | exact HB1.out | refine Below.setCell ?_ ?_ _ | (simp <;> omega)))

end Go.Proofs.YtgjhpeofcbdaaaaDoor
