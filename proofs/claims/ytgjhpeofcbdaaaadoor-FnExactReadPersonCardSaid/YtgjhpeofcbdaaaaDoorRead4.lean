/- Contract: spec.ReadPerson. -/
import Derived.Test.YtgjhpeofcbdaaaaDoorChecked
import Derived.Test.YtgjhpeofcbdaaaaDoorBase
import Derived.Test.YtgjhpeofcbdaaaaDoorPure42
import Derived.Test.YtgjhpeofcbdaaaaDoorSplit4
import Derived.Test.YtgjhpeofcbdaaaaDoorNums4
import Derived.Test.YtgjhpeofcbdaaaaDoorIsPers
import Derived.Test.YtgjhpeofcbdaaaaDoorPersLaw
import Derived.Test.YtgjhpeofcbdaaaaDoorText4
import Derived.WalkKit
import Derived.WalkSpells
import Derived.WalkLawsBesides
import Derived.Lib.Hide
import Derived.IntWalk
import Derived.RegionTactic
import Derived.Outline
namespace Go.Proofs.YtgjhpeofcbdaaaaDoor
open Go.RowKit Pure1 Pure3 Pure4 Pure7 Pure40 Pure41 Pure42

/-- the greatest length that Go's library reads -/
def MaxAt (w : World) : Prop := ∃ m, w.cell? ⟨1, 0, none⟩ = some (.int .i64 m)
theorem MaxAt.below {w w' : World} (h : MaxAt w) (hb : Below w.heap.size w w') : MaxAt w' := ⟨_, cell_later hb h.choose_spec⟩
theorem maxAt_of {w : World} (h : w.ShapedOpen Tryd.prog) : MaxAt w := Tryd.laysM146.s1_3 w h

/-- the value of what ReadPerson answers -/
def persInt (r : Pers × Int) : Value := .tuple #[.agg #[.int .i64 r.1.num, .string r.1.fst, .string r.1.lst, .int .i64 r.1.born, .int .i64 r.1.zone], .int .i64 r.2]
def SaysR (r : Pers × Int) (w : World) (e : Ending) (w' : World) : Prop := e = .returned (persInt r) ∧ Below w.heap.size w w'

theorem results_cell_tmp4 {fn : Func} {p u : Tmp} {ty : TypeId} (h : fn.results = #[.cell p ty, .tmp u]) (tmps : Array Value) (P : Program) (w : World) :
    (results fn tmps).run P w = ((asAddr (tmps.getD p undef)).run P w).andThen fun a w₁ => ((loadVar ty a).run P w₁).andThen fun v w₂ => .ok (.tuple #[v, tmps.getD u undef]) w₂ := by
  simp only [results, h]
  simp [Sem.run_bind, Result.andThen]

/-- five texts, by number -/
theorem five_of {ss : List ByteArray} (h : ss.length = 5) : ∃ a f l b z, ss = [a, f, l, b, z] := by
  match ss, h with
  | [a, f, l, b, z], _ => exact ⟨a, f, l, b, z, rfl⟩

theorem row_zero (w : World) (T : TypeId) : (w.alloc (.cells #[.int .i64 0, .string ⟨#[]⟩, .string ⟨#[]⟩, .int .i64 0, .int .i64 0] T)).rowIs w.heap.size T 5 (fun j => ((#[.int .i64 0, .string ⟨#[]⟩, .string ⟨#[]⟩, .int .i64 0, .int .i64 0] : Array Value)[j]?).getD undef) :=
  World.rowIs_alloc w #[.int .i64 0, .string ⟨#[]⟩, .string ⟨#[]⟩, .int .i64 0, .int .i64 0] T _ (fun i hi => by rw [Array.getElem?_eq_getElem hi]; rfl)
theorem row_below {w w' : World} {b n : Nat} {T : TypeId} {f : Nat → Value} (h : w.rowIs b T n f) (hb : Below w.heap.size w w') : w'.rowIs b T n f := h.of_block (hb.block b h.lt)

theorem read_fact {s ta tf tl tb tz : ByteArray} {lo hi n b z : Int} {o1 o2 o3 : Bool} (hp : partsS s = [ta, tf, tl, tb, tz]) (hlo : -9223372036854775808 ≤ lo ∧ lo ≤ 0) (hhi : 2000000 ≤ hi ∧ hi ≤ 9223372036854775807)
    (h1 : NumRead ta lo hi n o1) (h2 : NumRead tb lo hi b o2) (h3 : NumRead tz lo hi z o3) :
    (o1 = true ∧ o2 = true ∧ o3 = true ∧ isPers ⟨n, tf, tl, b, z⟩ = true ∧ readR s = (⟨n, tf, tl, b, z⟩, 0)) ∨ (¬ (o1 = true ∧ o2 = true ∧ o3 = true ∧ isPers ⟨n, tf, tl, b, z⟩ = true) ∧ readR s = (zeroP, 6)) := by
  by_cases hall : o1 = true ∧ o2 = true ∧ o3 = true ∧ isPers ⟨n, tf, tl, b, z⟩ = true
  · obtain ⟨e1, e2, e3, hq⟩ := hall
    refine .inl ⟨e1, e2, e3, hq, readR_yes hq ?_⟩
    rw [hp, fields, (h1.1 e1).1, (h2.1 e2).1, (h3.1 e3).1]
  · refine .inr ⟨hall, readR_no (fun p hq he => hall ?_)⟩
    rw [hp] at he
    simp only [fields, List.cons.injEq, and_true] at he
    obtain ⟨e1, e2, e3, e4, e5⟩ := he
    obtain ⟨⟨a1, a2⟩, _, _, ⟨b1, b2⟩, z1, z2⟩ := isPers_parts hq
    have k1 : o1 = true := by
      cases o1
      · exact absurd e1.symm (h1.2 rfl p.num (by omega) (by omega))
      · rfl
    have k2 : o2 = true := by
      cases o2
      · exact absurd e4.symm (h2.2 rfl p.born (by omega) (by omega))
      · rfl
    have k3 : o3 = true := by
      cases o3
      · exact absurd e5.symm (h3.2 rfl p.zone (by omega) (by omega))
      · rfl
    have q1 := h1.1 k1
    have q2 := h2.1 k2
    have q3 := h3.1 k3
    have m1 := decB_inj (by omega) (by omega) (by omega) (by omega) (q1.1.trans e1)
    have m2 := decB_inj (by omega) (by omega) (by omega) (by omega) (q2.1.trans e4)
    have m3 := decB_inj (by omega) (by omega) (by omega) (by omega) (q3.1.trans e5)
    refine ⟨k1, k2, k3, ?_⟩
    rw [m1, m2, m3, e2, e3]
    exact hq

set_option maxRecDepth 100000 in
set_option maxHeartbeats 4000000 in
theorem specReadPerson_any (s : ByteArray) (w : World) (hs : s.size ≤ 1048576) :
    Calls Tryd.prog 12 #[.string s] w (SaysR (readR s) w) := by
  have hW := boxed w (.cells #[.int .i64 0, .string ⟨#[]⟩, .string ⟨#[]⟩, .int .i64 0, .int .i64 0] 25)
  have HR0 := Lib.hid (row_zero w 25)
  have HC := Lib.hid (specSplit_any s (w.alloc (.cells #[.int .i64 0, .string ⟨#[]⟩, .string ⟨#[]⟩, .int .i64 0, .int .i64 0] 25)) hs)
  have HW := Lib.hid hW; clear hW
  go_enter Tryd.func12, Tryd.ntmps12
  go_wp2_with fail
  refine HC.out.mono ?_; rintro e w1 ⟨v, rfl, hown, hB⟩
  obtain ⟨a, cap, rfl, _, hat⟩ := strsAt_of_owns hown
  clear hown
  have HB1 := Lib.hid (HW.out.trans (hB.mono HW.out.size)); have HR1 := Lib.hid (row_below HR0.out hB)
  have HAt := Lib.hid hat
  clear hB hat
  by_cases h5 : (partsS s).length = 5
  · obtain ⟨ta, tf, tl, tb, tz, hp5⟩ := five_of h5
    have hszs := partsS_sizes s
    rw [hp5] at hszs
    have za := hszs ta (by simp); have zf := hszs tf (by simp); have zl := hszs tl (by simp); have zb := hszs tb (by simp); have zz := hszs tz (by simp)
    have hn5 : (((partsS s).length : Int) != 5) = false := by rw [h5]; rfl
    have HP5 := Lib.hid hp5
    have hat := HAt.out
    rw [hp5] at hat
    have h5' : (partsS s).length = 5 := h5
    generalize (partsS s).length = len at h5' hn5 ⊢
    subst h5'
    clear h5 hszs hp5 HAt
    rcases hat with hnil | ⟨g, off, hga, hat⟩
    · cases hnil
    · subst hga
      have c0 := hat 0 ta rfl; have c1 := hat 1 tf rfl; have c2 := hat 2 tl rfl; have c3 := hat 3 tb rfl; have c4 := hat 4 tz rfl
      rw [Nat.add_zero] at c0
      have hgl : g < w1.heap.size := World.block_lt_of_cell? w1 _ c0
      have HCe := Lib.hid (show w1.cell? ⟨g, off + 1, none⟩ = some (.string tf) ∧ w1.cell? ⟨g, off + 2, none⟩ = some (.string tl) ∧ w1.cell? ⟨g, off + 3, none⟩ = some (.string tb) ∧ w1.cell? ⟨g, off + 4, none⟩ = some (.string tz) from ⟨c1, c2, c3, c4⟩)
      clear hat c1 c2 c3 c4
      go_wp2_with fail
      refine (specValue_any ta w1 (by omega)).mono ?_; rintro e w2 ⟨n1, o1, rfl, hn01, hn11, hr1, hB⟩
      have HR2 := Lib.hid (row_below HR1.out hB); have HB2 := Lib.hid (HB1.out.trans (hB.mono HB1.out.size)); have HN1 := Lib.hid hr1
      obtain ⟨c1, c2, c3, c4⟩ := HCe.out
      have HCe := Lib.hid (show w2.cell? ⟨g, off + 1, none⟩ = some (.string tf) ∧ w2.cell? ⟨g, off + 2, none⟩ = some (.string tl) ∧ w2.cell? ⟨g, off + 3, none⟩ = some (.string tb) ∧ w2.cell? ⟨g, off + 4, none⟩ = some (.string tz) from ⟨cell_later hB c1, cell_later hB c2, cell_later hB c3, cell_later hB c4⟩)
      clear c1 c2 c3 c4 hB hr1 hn01 hn11 c0
      obtain ⟨c1, c2, c3, c4⟩ := HCe.out
      go_wp2_with fail
      clear c1 c2 c3 c4
      refine (specValue_any tb w2 (by omega)).mono ?_; rintro e w3 ⟨n2, o2, rfl, hn02, hn12, hr2, hB⟩
      have HR3 := Lib.hid (row_below HR2.out hB); have HB3 := Lib.hid (HB2.out.trans (hB.mono HB2.out.size)); have HN2 := Lib.hid hr2
      obtain ⟨c1, c2, c3, c4⟩ := HCe.out
      have HCe := Lib.hid (show w3.cell? ⟨g, off + 1, none⟩ = some (.string tf) ∧ w3.cell? ⟨g, off + 2, none⟩ = some (.string tl) ∧ w3.cell? ⟨g, off + 3, none⟩ = some (.string tb) ∧ w3.cell? ⟨g, off + 4, none⟩ = some (.string tz) from ⟨cell_later hB c1, cell_later hB c2, cell_later hB c3, cell_later hB c4⟩)
      clear c1 c2 c3 c4 hB hr2 hn02 hn12 
      obtain ⟨c1, c2, c3, c4⟩ := HCe.out
      go_wp2_with fail
      clear c1 c2 c3 c4
      refine (specValue_any tz w3 (by omega)).mono ?_; rintro e w4 ⟨n3, o3, rfl, hn03, hn13, hr3, hB⟩
      have HR4 := Lib.hid (row_below HR3.out hB); have HB4 := Lib.hid (HB3.out.trans (hB.mono HB3.out.size)); have HN3 := Lib.hid hr3
      obtain ⟨c1, c2, c3, c4⟩ := HCe.out
      have HCe := Lib.hid (show w4.cell? ⟨g, off + 1, none⟩ = some (.string tf) ∧ w4.cell? ⟨g, off + 2, none⟩ = some (.string tl) ∧ w4.cell? ⟨g, off + 3, none⟩ = some (.string tb) ∧ w4.cell? ⟨g, off + 4, none⟩ = some (.string tz) from ⟨cell_later hB c1, cell_later hB c2, cell_later hB c3, cell_later hB c4⟩)
      clear c1 c2 c3 c4 hB hr3 hn03 hn13 
      obtain ⟨c1, c2, c3, c4⟩ := HCe.out
      go_wp2_with fail
      clear c1 c2 c3 c4
      have HRd := Lib.hid (read_fact HP5.out (lo := 0) (hi := 9999999999999) (by omega) (by omega) HN1.out HN2.out HN3.out)
      obtain ⟨c1, c2, c3, c4⟩ := HCe.out
      have hgl4 : g < w4.heap.size := World.block_lt_of_cell? w4 _ c1
      clear c3 c4
      go_region
      have HAq := Lib.hid (atB_box w4 n1 tf tl n2 n3 25)
      have HBq := Lib.hid (HB4.out.alloc HB4.out.size (.cells #[.int .i64 n1, .string tf, .string tl, .int .i64 n2, .int .i64 n3] 25))
      have HRq := Lib.hid (HR4.out.alloc (.cells #[.int .i64 n1, .string tf, .string tl, .int .i64 n2, .int .i64 n3] 25))
      have HRL := Lib.hid HR4.out.lt
      clear c1 c2
      generalize w4.alloc (.cells #[.int .i64 n1, .string tf, .string tl, .int .i64 n2, .int .i64 n3] 25) = w5 at HAq HBq HRq ⊢
      have HA6 := Lib.hid (show AtB w5.drew w4.heap.size ⟨n1, tf, tl, n2, n3⟩ from HAq.out)
      have HB6 := Lib.hid (show Below w.heap.size w w5.drew from HBq.out.drew)
      have HR6 := Lib.hid (HRq.out.drew)
      have hbr : w4.heap.size ≠ w.heap.size := by have := HRL.out; omega
      generalize w5.drew = w6 at HA6 HB6 HR6 ⊢
      generalize w4.heap.size = bp at HA6 hbr ⊢
      clear hgl4
      cases o1
      · have HN := Lib.hid (show readR s = (zeroP, 6) from by
          rcases HRd.out with ⟨k1, k2, k3, k4, _⟩ | ⟨_, h⟩
          · cases k1
          · exact h)
        have d0 := HR6.out.cell (show 0 < 5 by omega); have d1 := HR6.out.cell (show 1 < 5 by omega); have d2 := HR6.out.cell (show 2 < 5 by omega); have d3 := HR6.out.cell (show 3 < 5 by omega); have d4 := HR6.out.cell (show 4 < 5 by omega)
        have e0 := HR6.out.frozen 0; have e1 := HR6.out.frozen 1; have e2 := HR6.out.frozen 2; have e3 := HR6.out.frozen 3; have e4 := HR6.out.frozen 4
        go_wp2_with fail
        (try simp only [Exit.inBlock, Exit.then])
        refine bodyPost_ret (v := .tuple #[.agg #[.int .i64 0, .string ⟨#[]⟩, .string ⟨#[]⟩, .int .i64 0, .int .i64 0], .int .i64 6]) ?_ rfl ⟨by rw [HN.out]; rfl, ?_⟩
        · rw [results_cell_tmp4 rfl]
          go_simp
        · (repeat' (first | exact HB6.out | refine Below.setCell ?_ ?_ _ | (simp <;> omega)))
      · cases o2
        · have HN := Lib.hid (show readR s = (zeroP, 6) from by
            rcases HRd.out with ⟨k1, k2, k3, k4, _⟩ | ⟨_, h⟩
            · cases k2
            · exact h)
          have d0 := HR6.out.cell (show 0 < 5 by omega); have d1 := HR6.out.cell (show 1 < 5 by omega); have d2 := HR6.out.cell (show 2 < 5 by omega); have d3 := HR6.out.cell (show 3 < 5 by omega); have d4 := HR6.out.cell (show 4 < 5 by omega)
          have e0 := HR6.out.frozen 0; have e1 := HR6.out.frozen 1; have e2 := HR6.out.frozen 2; have e3 := HR6.out.frozen 3; have e4 := HR6.out.frozen 4
          go_wp2_with fail
          (try simp only [Exit.inBlock, Exit.then])
          refine bodyPost_ret (v := .tuple #[.agg #[.int .i64 0, .string ⟨#[]⟩, .string ⟨#[]⟩, .int .i64 0, .int .i64 0], .int .i64 6]) ?_ rfl ⟨by rw [HN.out]; rfl, ?_⟩
          · rw [results_cell_tmp4 rfl]
            go_simp
          · (repeat' (first | exact HB6.out | refine Below.setCell ?_ ?_ _ | (simp <;> omega)))
        · cases o3
          · have HN := Lib.hid (show readR s = (zeroP, 6) from by
              rcases HRd.out with ⟨k1, k2, k3, k4, _⟩ | ⟨_, h⟩
              · cases k3
              · exact h)
            have d0 := HR6.out.cell (show 0 < 5 by omega); have d1 := HR6.out.cell (show 1 < 5 by omega); have d2 := HR6.out.cell (show 2 < 5 by omega); have d3 := HR6.out.cell (show 3 < 5 by omega); have d4 := HR6.out.cell (show 4 < 5 by omega)
            have e0 := HR6.out.frozen 0; have e1 := HR6.out.frozen 1; have e2 := HR6.out.frozen 2; have e3 := HR6.out.frozen 3; have e4 := HR6.out.frozen 4
            go_wp2_with fail
            (try simp only [Exit.inBlock, Exit.then])
            refine bodyPost_ret (v := .tuple #[.agg #[.int .i64 0, .string ⟨#[]⟩, .string ⟨#[]⟩, .int .i64 0, .int .i64 0], .int .i64 6]) ?_ rfl ⟨by rw [HN.out]; rfl, ?_⟩
            · rw [results_cell_tmp4 rfl]
              go_simp
            · (repeat' (first | exact HB6.out | refine Below.setCell ?_ ?_ _ | (simp <;> omega)))
          · cases hip : isPers ⟨n1, tf, tl, n2, n3⟩
            · have HN := Lib.hid (show readR s = (zeroP, 6) from by
                rcases HRd.out with ⟨k1, k2, k3, k4, _⟩ | ⟨_, h⟩
                · rw [hip] at k4; cases k4
                · exact h)
              obtain ⟨c0, c1, c2, c3, c4⟩ := HA6.out
              go_wp2_with fail
              clear c0 c1 c2 c3 c4
              refine (specIsPerson_any n1 tf tl n2 n3 w6 (by unfold maxLen; omega) (by unfold maxLen; omega)).mono ?_; rintro e w7 ⟨rfl, hB⟩
              have HR7 := Lib.hid (row_below HR6.out hB); have HB7 := Lib.hid (HB6.out.trans (hB.mono HB6.out.size)); have HA7 := Lib.hid (HA6.out.below hB)
              clear hB
              have d0 := HR7.out.cell (show 0 < 5 by omega); have d1 := HR7.out.cell (show 1 < 5 by omega); have d2 := HR7.out.cell (show 2 < 5 by omega); have d3 := HR7.out.cell (show 3 < 5 by omega); have d4 := HR7.out.cell (show 4 < 5 by omega)
              have e0 := HR7.out.frozen 0; have e1 := HR7.out.frozen 1; have e2 := HR7.out.frozen 2; have e3 := HR7.out.frozen 3; have e4 := HR7.out.frozen 4
              go_wp2_with fail
              (try simp only [Exit.inBlock, Exit.then])
              refine bodyPost_ret (v := .tuple #[.agg #[.int .i64 0, .string ⟨#[]⟩, .string ⟨#[]⟩, .int .i64 0, .int .i64 0], .int .i64 6]) ?_ rfl ⟨by rw [HN.out]; rfl, ?_⟩
              · rw [results_cell_tmp4 rfl]
                go_simp
              · (repeat' (first | exact HB7.out | refine Below.setCell ?_ ?_ _ | (simp <;> omega)))
            · have HN := Lib.hid (show readR s = (⟨n1, tf, tl, n2, n3⟩, 0) from by
                rcases HRd.out with ⟨_, _, _, _, h⟩ | ⟨h, _⟩
                · exact h
                · exact absurd ⟨rfl, rfl, rfl, hip⟩ h)
              obtain ⟨c0, c1, c2, c3, c4⟩ := HA6.out
              go_wp2_with fail
              clear c0 c1 c2 c3 c4
              refine (specIsPerson_any n1 tf tl n2 n3 w6 (by unfold maxLen; omega) (by unfold maxLen; omega)).mono ?_; rintro e w7 ⟨rfl, hB⟩
              have HR7 := Lib.hid (row_below HR6.out hB); have HB7 := Lib.hid (HB6.out.trans (hB.mono HB6.out.size)); have HA7 := Lib.hid (HA6.out.below hB)
              clear hB
              have d0 := HR7.out.cell (show 0 < 5 by omega); have d1 := HR7.out.cell (show 1 < 5 by omega); have d2 := HR7.out.cell (show 2 < 5 by omega); have d3 := HR7.out.cell (show 3 < 5 by omega); have d4 := HR7.out.cell (show 4 < 5 by omega)
              have e0 := HR7.out.frozen 0; have e1 := HR7.out.frozen 1; have e2 := HR7.out.frozen 2; have e3 := HR7.out.frozen 3; have e4 := HR7.out.frozen 4
              obtain ⟨c0, c1, c2, c3, c4⟩ := HA7.out
              simp only at c0 c1 c2 c3 c4
              go_wp2_with fail
              (try simp only [Exit.inBlock, Exit.then])
              refine bodyPost_ret (v := .tuple #[.agg #[.int .i64 n1, .string tf, .string tl, .int .i64 n2, .int .i64 n3], .int .i64 0]) ?_ rfl ⟨by rw [HN.out]; rfl, ?_⟩
              · rw [results_cell_tmp4 rfl]
                go_simp
              · (repeat' (first | exact HB7.out | refine Below.setCell ?_ ?_ _ | (simp <;> omega)))
  · have HN := Lib.hid (readR_no (s := s) (fun p _ e => h5 (by rw [e]; rfl)))
    have hn5 : (((partsS s).length : Int) != 5) = true := by rw [bne_iff_ne]; omega
    generalize (partsS s).length = len at hn5 ⊢
    clear h5
    have d0 := HR1.out.cell (show 0 < 5 by omega); have d1 := HR1.out.cell (show 1 < 5 by omega); have d2 := HR1.out.cell (show 2 < 5 by omega); have d3 := HR1.out.cell (show 3 < 5 by omega); have d4 := HR1.out.cell (show 4 < 5 by omega)
    have e0 := HR1.out.frozen 0; have e1 := HR1.out.frozen 1; have e2 := HR1.out.frozen 2; have e3 := HR1.out.frozen 3; have e4 := HR1.out.frozen 4
    go_wp2_with fail
    (try simp only [Exit.inBlock, Exit.then])
    refine bodyPost_ret (v := .tuple #[.agg #[.int .i64 0, .string ⟨#[]⟩, .string ⟨#[]⟩, .int .i64 0, .int .i64 0], .int .i64 6]) ?_ rfl ⟨by rw [HN.out]; rfl, ?_⟩
    · rw [results_cell_tmp4 rfl]
      go_simp
    · (repeat' (first | exact HB1.out | refine Below.setCell ?_ ?_ _ | (simp <;> omega)))

end Go.Proofs.YtgjhpeofcbdaaaaDoor
