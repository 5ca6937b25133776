/- Contracts of the laws' own helpers on candidates: szCandidate, toCandidate, eqCandidate, and their slices; markCandidateS. -/
import Derived.Test.YtjnjmoiilapbiaaChecked
import Derived.Test.YtjnjmoiilapbiaaBase
import Derived.Test.YtjnjmoiilapbiaaInfo
import Derived.Test.YtjnjmoiilapbiaaPure40
import Derived.Test.YtjnjmoiilapbiaaPure61
import Derived.Test.YtjnjmoiilapbiaaMarkI
import Derived.Test.YtjnjmoiilapbiaaEqInt
import Derived.Test.YtjnjmoiilapbiaaPersLaw
import Derived.Test.YtjnjmoiilapbiaaBuild6
import Derived.Test.YtjnjmoiilapbiaaTruth6
import Derived.Test.YtjnjmoiilapbiaaAns6
import Derived.Test.YtjnjmoiilapbiaaRulLaw6
import Derived.Test.YtjnjmoiilapbiaaPure4
import Derived.Test.YtjnjmoiilapbiaaMarkT6
import Derived.WalkKit
import Derived.WalkSpells
import Derived.WalkLawsBesides
import Derived.Lib.Hide
import Derived.Lib.QuietBelow
import Derived.IntWalk
import Derived.Deep.OwnRows
import Derived.Deep.QuietTactic
import Derived.BigQuiet
import Derived.Outline
namespace Go.Proofs.Ytjnjmoiilapbiaa
open Go.RowKit Go.Sort Pure4 Pure1 Pure2 Pure40 Pure61

/-- a row of nine cells, by its values -/
def Row9 (b : Nat) (w : World) (g : Nat → Value) : Prop := ∃ f, w.rowIs b 30 9 f ∧ ∀ i, i < 9 → f i = g i
def vals9 (n : Int) (f la : ByteArray) (bo z : Int) (c1 c2 c3 : Bool) (j : Int) (i : Nat) : Value := (#[.int .i64 n, .string f, .string la, .int .i64 bo, .int .i64 z, .bool c1, .bool c2, .bool c3, .int .i64 j] : Array Value)[i]?.getD undef
theorem Row9.cell {b : Nat} {w : World} {g : Nat → Value} (h : Row9 b w g) (i : Nat) (hi : i < 9) : w.cell? ⟨b, i, none⟩ = some (g i) := by
  obtain ⟨f, hr, hf⟩ := h; rw [hr.cell hi, hf i hi]
theorem Row9.frozen {b : Nat} {w : World} {g : Nat → Value} (h : Row9 b w g) (i : Nat) : w.frozen? ⟨b, i, none⟩ = false := by
  obtain ⟨f, hr, hf⟩ := h; exact hr.frozen i
theorem Row9.below {b : Nat} {w w' : World} {g : Nat → Value} (h : Row9 b w g) (hb : Below w.heap.size w w') : Row9 b w' g := by
  obtain ⟨f, hr, hf⟩ := h; exact ⟨f, hr.of_block (hb.block b hr.lt), hf⟩
theorem row9_zero (w : World) : Row9 w.heap.size (w.alloc (.cells #[.int .i64 0, .string ⟨#[]⟩, .string ⟨#[]⟩, .int .i64 0, .int .i64 0, .bool false, .bool false, .bool false, .int .i64 0] 30)) (fun i => (#[.int .i64 0, .string ⟨#[]⟩, .string ⟨#[]⟩, .int .i64 0, .int .i64 0, .bool false, .bool false, .bool false, .int .i64 0] : Array Value)[i]?.getD undef) :=
  ⟨_, World.rowIs_alloc w #[.int .i64 0, .string ⟨#[]⟩, .string ⟨#[]⟩, .int .i64 0, .int .i64 0, .bool false, .bool false, .bool false, .int .i64 0] 30 _ (fun i hi => by rw [Array.getElem?_eq_getElem hi]; rfl), fun _ _ => rfl⟩

/-- what is left of a size behind a candidate -/
theorem szCand_any (n : Int) (f la : ByteArray) (bo z : Int) (c1 c2 c3 : Bool) (j : Int) (m : Int) (w : World) (hf : f.size ≤ maxLen) (hl : la.size ≤ maxLen) (h0 : 0 ≤ m) (h1 : m ≤ 1048576) :
    Calls Try.prog 32 #[.agg #[.int .i64 n, .string f, .string la, .int .i64 bo, .int .i64 z, .bool c1, .bool c2, .bool c3, .int .i64 j], .int .i64 m] w fun e w' => ∃ L : Int, e = .returned (.int .i64 L) ∧ L ≤ 1048576 ∧ -1 ≤ L ∧ Below w.heap.size w w' := by
  have HW := Lib.hid (boxed w (.cells #[.int .i64 n, .string f, .string la, .int .i64 bo, .int .i64 z, .bool c1, .bool c2, .bool c3, .int .i64 j] 50))
  have HC := Lib.hid (szPerson_any n f la bo z m (w.alloc (.cells #[.int .i64 n, .string f, .string la, .int .i64 bo, .int .i64 z, .bool c1, .bool c2, .bool c3, .int .i64 j] 50)) hf hl h0 h1)
  have hL : leftP f la m = -1 ∨ (0 ≤ leftP f la m ∧ leftP f la m ≤ m) := by
    unfold leftP; split
    · exact .inl rfl
    · split
      · exact .inl rfl
      · exact .inr ⟨by omega, by omega⟩
  generalize leftP f la m = L at HC hL
  by_cases hn : L < 0
  · go_enter Try.func32, Try.ntmps32
    go_wp2_with fail
    refine HC.out.mono ?_; rintro e w1 ⟨rfl, hB⟩
    have HB := Lib.hid (HW.out.trans (hB.mono HW.out.size)); clear hB
    go_wp2_with fail
    go_ret
    exact ⟨-1, rfl, by omega, by omega, HB.out⟩
  · go_enter Try.func32, Try.ntmps32
    go_wp2_with fail
    refine HC.out.mono ?_; rintro e w1 ⟨rfl, hB⟩
    have HB := Lib.hid (HW.out.trans (hB.mono HW.out.size)); clear hB
    go_wp2_with fail
    go_ret
    exact ⟨L, rfl, by omega, by omega, HB.out⟩

set_option maxRecDepth 100000 in
set_option maxHeartbeats 2000000 in
theorem toCand_any (n : Int) (f la : ByteArray) (bo z : Int) (c1 c2 c3 : Bool) (j : Int) (w : World) :
    Calls Try.prog 33 #[.agg #[.int .i64 n, .string f, .string la, .int .i64 bo, .int .i64 z, .bool c1, .bool c2, .bool c3, .int .i64 j]] w fun e w' => e = .returned (.agg #[.int .i64 n, .string f, .string la, .int .i64 bo, .int .i64 z, .bool c1, .bool c2, .bool c3, .int .i64 j]) ∧ Below w.heap.size w w' := by
  have HA0 := Lib.hid (((atD_box w n f la bo z c1 c2 c3 j 50).below (boxed _ (.cells #[.int .i64 0, .string ⟨#[]⟩, .string ⟨#[]⟩, .int .i64 0, .int .i64 0, .bool false, .bool false, .bool false, .int .i64 0] 30))).below (boxed _ (.cells #[.int .i64 0, .string ⟨#[]⟩, .string ⟨#[]⟩, .int .i64 0, .int .i64 0, .bool false, .bool false, .bool false, .int .i64 0] 30)))
  have hp := (row9_zero (w.alloc (.cells #[.int .i64 n, .string f, .string la, .int .i64 bo, .int .i64 z, .bool c1, .bool c2, .bool c3, .int .i64 j] 50))).below (boxed _ (.cells #[.int .i64 0, .string ⟨#[]⟩, .string ⟨#[]⟩, .int .i64 0, .int .i64 0, .bool false, .bool false, .bool false, .int .i64 0] 30))
  have ho := row9_zero ((w.alloc (.cells #[.int .i64 n, .string f, .string la, .int .i64 bo, .int .i64 z, .bool c1, .bool c2, .bool c3, .int .i64 j] 50)).alloc (.cells #[.int .i64 0, .string ⟨#[]⟩, .string ⟨#[]⟩, .int .i64 0, .int .i64 0, .bool false, .bool false, .bool false, .int .i64 0] 30))
  have hx1 : (w.alloc (.cells #[.int .i64 n, .string f, .string la, .int .i64 bo, .int .i64 z, .bool c1, .bool c2, .bool c3, .int .i64 j] 50)).heap.size = w.heap.size + 1 := by simp
  have hx2 : ((w.alloc (.cells #[.int .i64 n, .string f, .string la, .int .i64 bo, .int .i64 z, .bool c1, .bool c2, .bool c3, .int .i64 j] 50)).alloc (.cells #[.int .i64 0, .string ⟨#[]⟩, .string ⟨#[]⟩, .int .i64 0, .int .i64 0, .bool false, .bool false, .bool false, .int .i64 0] 30)).heap.size = w.heap.size + 1 + 1 := by simp
  rw [hx1] at hp
  rw [hx2] at ho
  have HP0 := Lib.hid hp; have HO0 := Lib.hid ho
  have HW0 := Lib.hid (boxes3_below w (.cells #[.int .i64 n, .string f, .string la, .int .i64 bo, .int .i64 z, .bool c1, .bool c2, .bool c3, .int .i64 j] 50) (.cells #[.int .i64 0, .string ⟨#[]⟩, .string ⟨#[]⟩, .int .i64 0, .int .i64 0, .bool false, .bool false, .bool false, .int .i64 0] 30) (.cells #[.int .i64 0, .string ⟨#[]⟩, .string ⟨#[]⟩, .int .i64 0, .int .i64 0, .bool false, .bool false, .bool false, .int .i64 0] 30))
  clear hp ho hx1 hx2
  go_enter Try.func33, Try.ntmps33
  go_wp2_with fail
  generalize ((w.alloc (.cells #[.int .i64 n, .string f, .string la, .int .i64 bo, .int .i64 z, .bool c1, .bool c2, .bool c3, .int .i64 j] 50)).alloc (.cells #[.int .i64 0, .string ⟨#[]⟩, .string ⟨#[]⟩, .int .i64 0, .int .i64 0, .bool false, .bool false, .bool false, .int .i64 0] 30)).alloc (.cells #[.int .i64 0, .string ⟨#[]⟩, .string ⟨#[]⟩, .int .i64 0, .int .i64 0, .bool false, .bool false, .bool false, .int .i64 0] 30) = w0 at HA0 HP0 HO0 HW0 ⊢
  obtain ⟨xb, hxb⟩ : ∃ xb, w.heap.size = xb := ⟨_, rfl⟩
  have HXB := Lib.hid hxb
  obtain ⟨pb, hpb⟩ : ∃ pb, xb + 1 = pb := ⟨_, rfl⟩
  obtain ⟨ob, hob⟩ : ∃ ob, pb + 1 = ob := ⟨_, rfl⟩
  have hsz := HW0.out.size
  rw [hxb] at HA0 HP0 HO0 HW0 hsz ⊢
  rw [hpb] at HP0 HO0 ⊢
  rw [hob] at HO0 ⊢
  have n1 : xb ≠ pb := by omega
  have n2 : xb ≠ ob := by omega
  have n3 : pb ≠ ob := by omega
  have n4 : xb ≤ ob := by omega
  have n5 : xb ≤ pb := by omega
  clear hxb hpb hob
  have HC := Lib.hid (toPerson_any n f la bo z w0)
  refine HC.out.mono ?_; rintro e w1 ⟨rfl, hB⟩
  have HA1 := Lib.hid (HA0.out.below hB); have HP1 := Lib.hid (HP0.out.below hB); have HO1 := Lib.hid (HO0.out.below hB)
  have HW1 := Lib.hid (HW0.out.trans (hB.mono hsz))
  clear hB HC HA0 HP0 HO0 HW0
  obtain ⟨a0, a1, a2, a3, a4, a5, a6, a7, a8⟩ := HA1.out
  have u0 := HO1.out.cell 0 (by omega); have f0 := HO1.out.frozen 0; have d0 := HP1.out.cell 0 (by omega); have g0 := HP1.out.frozen 0
  have u1 := HO1.out.cell 1 (by omega); have f1 := HO1.out.frozen 1; have d1 := HP1.out.cell 1 (by omega); have g1 := HP1.out.frozen 1
  have u2 := HO1.out.cell 2 (by omega); have f2 := HO1.out.frozen 2; have d2 := HP1.out.cell 2 (by omega); have g2 := HP1.out.frozen 2
  have u3 := HO1.out.cell 3 (by omega); have f3 := HO1.out.frozen 3; have d3 := HP1.out.cell 3 (by omega); have g3 := HP1.out.frozen 3
  have u4 := HO1.out.cell 4 (by omega); have f4 := HO1.out.frozen 4; have d4 := HP1.out.cell 4 (by omega); have g4 := HP1.out.frozen 4
  have u5 := HO1.out.cell 5 (by omega); have f5 := HO1.out.frozen 5; have d5 := HP1.out.cell 5 (by omega); have g5 := HP1.out.frozen 5
  have u6 := HO1.out.cell 6 (by omega); have f6 := HO1.out.frozen 6; have d6 := HP1.out.cell 6 (by omega); have g6 := HP1.out.frozen 6
  have u7 := HO1.out.cell 7 (by omega); have f7 := HO1.out.frozen 7; have d7 := HP1.out.cell 7 (by omega); have g7 := HP1.out.frozen 7
  have u8 := HO1.out.cell 8 (by omega); have f8 := HO1.out.frozen 8; have d8 := HP1.out.cell 8 (by omega); have g8 := HP1.out.frozen 8
  go_wp2_with fail
  (try simp only [Exit.inBlock, Exit.then])
  refine bodyPost_ret (v := .agg #[.int .i64 n, .string f, .string la, .int .i64 bo, .int .i64 z, .bool c1, .bool c2, .bool c3, .int .i64 j]) ?_ rfl ⟨rfl, ?_⟩
  · rw [results_cell1 rfl]
    go_simp
  · rw [HXB.out]
    exact ((((((((((((((((((HW1.out.setCell (p := ⟨ob, 0, none⟩) n4 _).setCell (p := ⟨ob, 1, none⟩) n4 _).setCell (p := ⟨ob, 2, none⟩) n4 _).setCell (p := ⟨ob, 3, none⟩) n4 _).setCell (p := ⟨ob, 4, none⟩) n4 _).setCell (p := ⟨ob, 5, none⟩) n4 _).setCell (p := ⟨ob, 6, none⟩) n4 _).setCell (p := ⟨ob, 7, none⟩) n4 _).setCell (p := ⟨ob, 8, none⟩) n4 _).setCell (p := ⟨pb, 0, none⟩) n5 _).setCell (p := ⟨pb, 1, none⟩) n5 _).setCell (p := ⟨pb, 2, none⟩) n5 _).setCell (p := ⟨pb, 3, none⟩) n5 _).setCell (p := ⟨pb, 4, none⟩) n5 _).setCell (p := ⟨pb, 5, none⟩) n5 _).setCell (p := ⟨pb, 6, none⟩) n5 _).setCell (p := ⟨pb, 7, none⟩) n5 _).setCell (p := ⟨pb, 8, none⟩) n5 _)

set_option maxRecDepth 100000 in
set_option maxHeartbeats 2000000 in
theorem eqPers_self (n : Int) (f la : ByteArray) (bo z : Int) (w : World) :
    Calls Try.prog 79 #[.agg #[.int .i64 n, .string f, .string la, .int .i64 bo, .int .i64 z], .agg #[.int .i64 n, .string f, .string la, .int .i64 bo, .int .i64 z]] w fun e w' => e = .returned (.bool true) ∧ Below w.heap.size w w' := by
  have := eqPerson_any n f la bo z n f la bo z w
  simp only [decide_true, Bool.and_self] at this
  exact this
theorem eqCand_self (n : Int) (f la : ByteArray) (bo z : Int) (c1 c2 c3 : Bool) (j : Int) (w : World) :
    Calls Try.prog 68 #[.agg #[.int .i64 n, .string f, .string la, .int .i64 bo, .int .i64 z, .bool c1, .bool c2, .bool c3, .int .i64 j], .agg #[.int .i64 n, .string f, .string la, .int .i64 bo, .int .i64 z, .bool c1, .bool c2, .bool c3, .int .i64 j]] w fun e w' => e = .returned (.bool true) ∧ Below w.heap.size w w' := by
  have HA0 := Lib.hid ((atD_box w n f la bo z c1 c2 c3 j 30).below (boxed _ (.cells #[.int .i64 n, .string f, .string la, .int .i64 bo, .int .i64 z, .bool c1, .bool c2, .bool c3, .int .i64 j] 30)))
  have ho := atD_box (w.alloc (.cells #[.int .i64 n, .string f, .string la, .int .i64 bo, .int .i64 z, .bool c1, .bool c2, .bool c3, .int .i64 j] 30)) n f la bo z c1 c2 c3 j 30
  have hx1 : (w.alloc (.cells #[.int .i64 n, .string f, .string la, .int .i64 bo, .int .i64 z, .bool c1, .bool c2, .bool c3, .int .i64 j] 30)).heap.size = w.heap.size + 1 := by simp
  rw [hx1] at ho
  have HO0 := Lib.hid ho
  have HW0 := Lib.hid (boxes_below w (.cells #[.int .i64 n, .string f, .string la, .int .i64 bo, .int .i64 z, .bool c1, .bool c2, .bool c3, .int .i64 j] 30) (.cells #[.int .i64 n, .string f, .string la, .int .i64 bo, .int .i64 z, .bool c1, .bool c2, .bool c3, .int .i64 j] 30))
  have HC := Lib.hid (eqPers_self n f la bo z ((w.alloc (.cells #[.int .i64 n, .string f, .string la, .int .i64 bo, .int .i64 z, .bool c1, .bool c2, .bool c3, .int .i64 j] 30)).alloc (.cells #[.int .i64 n, .string f, .string la, .int .i64 bo, .int .i64 z, .bool c1, .bool c2, .bool c3, .int .i64 j] 30)))
  clear ho hx1
  go_enter Try.func68, Try.ntmps68
  go_wp2_with fail
  refine HC.out.mono ?_; rintro e w1 ⟨rfl, hB⟩
  have HW1 := Lib.hid (HW0.out.trans (hB.mono HW0.out.size))
  obtain ⟨a0, a1, a2, a3, a4, a5, a6, a7, a8⟩ := HA0.out.below hB
  obtain ⟨b0, b1, b2, b3, b4, b5, b6, b7, b8⟩ := HO0.out.below hB
  clear hB HC HA0 HO0
  go_wp2_with fail
  go_ret
  exact ⟨rfl, HW1.out⟩

/-- what is left behind a list of candidates: where it is not negative, the list is no longer than what there was -/
def LeftC (len : Nat) (w : World) (e : Ending) (w' : World) : Prop := ∃ L : Int, e = .returned (.int .i64 L) ∧ L ≤ 1048576 ∧ (0 ≤ L → len ≤ 1048576) ∧ Below w.heap.size w w'

set_option maxRecDepth 100000 in
set_option maxHeartbeats 1000000 in
theorem szCandS_any (a : Option Addr) (len cap : Nat) (cs : List Cand) (m0 : Int) (w : World) (h0 : 0 ≤ m0) (h1 : m0 ≤ 1048576) (hl : cs.length = len) (hm : len ≤ maxLen) (hI : CandsAt w a cs) (hF : FitsC cs) :
    Calls Try.prog 37 #[.slice a len cap, .int .i64 m0] w (LeftC len w) := by
  unfold maxLen at hm
  have HL := Lib.hid hl; have HI := Lib.hid hI; have HF := Lib.hid hF
  clear hl hI hF
  by_cases hbig : m0 - len < 0
  · go_enter Try.func37, Try.ntmps37
    go_wp2
    go_ret
    exact ⟨-1, rfl, by omega, fun h => by omega, Below.refl _ _⟩
  · go_enter Try.func37, Try.ntmps37
    go_wp2
    go_loopw [1, 5] (fun m i wr => ∃ (k : Nat) (m' : Int), k ≤ len ∧ i = .int .i64 k ∧ m = .int .i64 m' ∧ 0 ≤ m' ∧ m' ≤ 1048576 ∧ Below w.heap.size w wr) (fun _ i _ => len - (intOf i).toNat)
    case atStart => exact ⟨0, m0 - len, Nat.zero_le _, rfl, rfl, by omega, by omega, Below.refl _ _⟩
    case round =>
      obtain ⟨k, m', hk, rfl, rfl, hm0, hm1, hB⟩ := hrel
      have HB := Lib.hid hB; clear hB
      by_cases hlt : k < len
      · obtain ⟨b, off, c, rfl, hc, hp⟩ := (HI.out.below HB.out).at HL.out hlt
        obtain ⟨c0, c1, c2, c3, c4, c5, c6, c7, c8⟩ := hc
        obtain ⟨hf, hl⟩ := HF.out.at hp
        have HS := Lib.hid (szCand_any c.p.num c.p.fst c.p.lst c.p.born c.p.zone c.cit c.con c.flu c.job m' wr hf hl hm0 hm1)
        clear hf hl hp
        go_wp2_with fail
        refine HS.out.mono ?_; rintro e w2 ⟨L, rfl, hL1, hL2, hB⟩
        have HB2 := Lib.hid (HB.out.trans (hB.mono HB.out.size)); clear hB c0 c1 c2 c3 c4 c5 c6 c7 c8
        by_cases hL : L < 0
        · go_wp2_with fail
          go_ret
          exact ⟨-1, rfl, by omega, fun h => by omega, HB2.out⟩
        · go_wp2_with fail
          go_roundw
          case rel => exact ⟨k + 1, L, by omega, by go_num, rfl, by omega, hL1, HB2.out⟩
          case measure => simp [intOf]; omega
      · go_wp2_with fail
        go_ret
        exact ⟨m', rfl, hm1, fun _ => by omega, HB.out⟩

theorem Try.info_cand : (Try.prog.info? 30).map (fun i => (i.zero, i.size, i.bytes)) = some (some (.agg #[.int .i64 0, .string ⟨#[]⟩, .string ⟨#[]⟩, .int .i64 0, .int .i64 0, .bool false, .bool false, .bool false, .int .i64 0]), 9, 72) := by kernel_rfl
theorem run_make_cand (len : Nat) (hm : len ≤ 1048576) (W : World) : (Instr.makeSlice 37 (.int .i64 (len : Int)) (.int .i64 (len : Int))).run Try.prog W = .ok (.slice (some ⟨W.heap.size, 0, none⟩) len len) (W.alloc (.cells (madeCells #[.int .i64 0, .string ⟨#[]⟩, .string ⟨#[]⟩, .int .i64 0, .int .i64 0, .bool false, .bool false, .bool false, .int .i64 0] (len * 9)) 30)) := by
  obtain ⟨i, hi, hzz⟩ := Option.map_eq_some_iff.1 Try.info_cand
  simp only [Prod.mk.injEq] at hzz
  obtain ⟨hz, hs, hb⟩ := hzz
  have hr := run_make (P := Try.prog) W 37 30 i _ Try.underlying37 hi hz .i64 .i64 len len (by omega) (Int.le_refl _) (by rw [hb]; omega) (by omega)
  simp only [Int.toNat_natCast, hs] at hr
  exact hr
theorem made_row9 (w : World) (z : Array Value) (n : Nat) (T : TypeId) : (w.alloc (.cells (madeCells z n) T)).rowIs w.heap.size T n (fun j => ((madeCells z n)[j]?).getD undef) := by
  have := World.rowIs_alloc w (madeCells z n) T (fun j => ((madeCells z n)[j]?).getD undef) (fun i hi => by rw [Array.getElem?_eq_getElem hi]; rfl)
  rwa [size_madeCells] at this
/-- the first k candidates lie in the cells f -/
def CRow (f : Nat → Value) (cs : List Cand) (k : Nat) : Prop := ∀ i c, i < k → cs[i]? = some c → f (i * 9) = .int .i64 c.p.num ∧ f (i * 9 + 1) = .string c.p.fst ∧ f (i * 9 + 2) = .string c.p.lst ∧ f (i * 9 + 3) = .int .i64 c.p.born ∧ f (i * 9 + 4) = .int .i64 c.p.zone ∧ f (i * 9 + 5) = .bool c.cit ∧ f (i * 9 + 6) = .bool c.con ∧ f (i * 9 + 7) = .bool c.flu ∧ f (i * 9 + 8) = .int .i64 c.job
def put9 (f : Nat → Value) (k : Nat) (c : Cand) : Nat → Value := fun j => if j = k * 9 + 8 then .int .i64 c.job else if j = k * 9 + 7 then .bool c.flu else if j = k * 9 + 6 then .bool c.con else if j = k * 9 + 5 then .bool c.cit else if j = k * 9 + 4 then .int .i64 c.p.zone else if j = k * 9 + 3 then .int .i64 c.p.born else if j = k * 9 + 2 then .string c.p.lst else if j = k * 9 + 1 then .string c.p.fst else if j = k * 9 then .int .i64 c.p.num else f j
theorem CRow.step {f : Nat → Value} {cs : List Cand} {k : Nat} {c : Cand} (h : CRow f cs k) (hc : cs[k]? = some c) : CRow (put9 f k c) cs (k + 1) := by
  intro i q hi hq
  unfold put9
  by_cases e : i = k
  · subst e
    rw [hc] at hq; cases hq
    simp
  · have hi' : i < k := by omega
    obtain ⟨h0, h1, h2, h3, h4, h5, h6, h7, h8⟩ := h i q hi' hq
    refine ⟨?_, ?_, ?_, ?_, ?_, ?_, ?_, ?_, ?_⟩ <;> (repeat rw [if_neg (by omega)]) <;> assumption
/-- block b is a row of n candidates -/
def RowC (b n : Nat) (w : World) : Prop := ∃ f, w.rowIs b 30 (n * 9) f
theorem RowC.below {b n : Nat} {w w' : World} (h : RowC b n w) (hb : Below w.heap.size w w') : RowC b n w' := by
  obtain ⟨f, hr⟩ := h; exact ⟨f, hr.of_block (hb.block b hr.lt)⟩
theorem RowC.between {b n B C : Nat} {w w' : World} (h : RowC b n w) (hb : Between B C w w') (hC : C ≤ b) : RowC b n w' := by
  obtain ⟨f, hr⟩ := h; exact ⟨f, hr.of_block (hb.2.2.2.2 b hr.lt (.inr hC))⟩
/-- a new slice that reads the candidates cs, in a row of its own; nothing that was there has turned -/
def IsCopyC (w : World) (len : Nat) (cs : List Cand) (e : Ending) (w' : World) : Prop :=
  ∃ b, e = .returned (.slice (some ⟨b, 0, none⟩) len len) ∧ w.heap.size ≤ b ∧ b < w'.heap.size ∧ (∃ f, w'.rowIs b 30 (len * 9) f) ∧ CandsAt w' (some ⟨b, 0, none⟩) cs ∧ Below w.heap.size w w'
theorem copiedC {w wr : World} {len : Nat} {f : Nat → Value} {cs : List Cand} (hr : wr.rowIs w.heap.size 30 (len * 9) f) (hl : cs.length = len) (hf : CRow f cs len)
    (hB : Below w.heap.size w wr) : IsCopyC w len cs (.returned (.slice (some ⟨w.heap.size, 0, none⟩) len len)) wr :=
  ⟨_, rfl, Nat.le_refl _, hr.lt, ⟨f, hr⟩, .inr ⟨_, _, rfl, fun i x hx => by
    have hi : i < len := by rw [← hl]; exact (List.getElem?_eq_some_iff.1 hx).1
    obtain ⟨f0, f1, f2, f3, f4, f5, f6, f7, f8⟩ := hf i x hi hx
    rw [Nat.zero_add]
    exact ⟨by rw [hr.cell (by omega), f0], by rw [hr.cell (by omega), f1], by rw [hr.cell (by omega), f2], by rw [hr.cell (by omega), f3], by rw [hr.cell (by omega), f4], by rw [hr.cell (by omega), f5], by rw [hr.cell (by omega), f6], by rw [hr.cell (by omega), f7], by rw [hr.cell (by omega), f8]⟩⟩, hB⟩
theorem row_put9 {w : World} {b : Nat} {T : TypeId} {N : Nat} {f : Nat → Value} (h : w.rowIs b T N f) (k : Nat) (c : Cand) : ((((((((((w.setCell ⟨b, k * 9, none⟩ (.int .i64 c.p.num)).setCell ⟨b, k * 9 + 1, none⟩ (.string c.p.fst)).setCell ⟨b, k * 9 + 2, none⟩ (.string c.p.lst)).setCell ⟨b, k * 9 + 3, none⟩ (.int .i64 c.p.born)).setCell ⟨b, k * 9 + 4, none⟩ (.int .i64 c.p.zone)).setCell ⟨b, k * 9 + 5, none⟩ (.bool c.cit)).setCell ⟨b, k * 9 + 6, none⟩ (.bool c.con)).setCell ⟨b, k * 9 + 7, none⟩ (.bool c.flu)).setCell ⟨b, k * 9 + 8, none⟩ (.int .i64 c.job))).rowIs b T N (put9 f k c) := (((((((((h.set (k * 9) (.int .i64 c.p.num)).set (k * 9 + 1) (.string c.p.fst)).set (k * 9 + 2) (.string c.p.lst)).set (k * 9 + 3) (.int .i64 c.p.born)).set (k * 9 + 4) (.int .i64 c.p.zone)).set (k * 9 + 5) (.bool c.cit)).set (k * 9 + 6) (.bool c.con)).set (k * 9 + 7) (.bool c.flu)).set (k * 9 + 8) (.int .i64 c.job))

set_option maxRecDepth 100000 in
set_option maxHeartbeats 4000000 in
theorem toCandS_any (a : Option Addr) (len cap : Nat) (cs : List Cand) (w : World) (hl : cs.length = len) (hm : len ≤ 1048576) (h : CandsAt w a cs) :
    Calls Try.prog 38 #[.slice a len cap] w (IsCopyC w len cs) := by
  have HL := Lib.hid hl; clear hl
  have HI := Lib.hid h; clear h
  have hmk := run_make_cand len hm
  go_enter Try.func38, Try.ntmps38
  go_wp2
  go_loopw [4] (fun i wr => ∃ k : Nat, k ≤ len ∧ i = .int .i64 k ∧ Below w.heap.size w wr ∧ ∃ f, wr.rowIs w.heap.size 30 (len * 9) f ∧ CRow f cs k) (fun i _ => len - (intOf i).toNat)
  case atStart => exact ⟨0, Nat.zero_le _, rfl, (Below.refl _ _).alloc (Nat.le_refl _) _, _, made_row9 _ _ _ _, fun i x hi => by omega⟩
  case round =>
    obtain ⟨k, hk, rfl, hB, f, hr, hf⟩ := hrel
    have HB := Lib.hid hB; have HR := Lib.hid hr; have HF := Lib.hid hf; clear hB hr hf hmk
    by_cases hlt : k < len
    · obtain ⟨b, off, c, ha, hc, hp⟩ := (HI.out.below HB.out).at HL.out hlt
      obtain ⟨c0, c1, c2, c3, c4, c5, c6, c7, c8⟩ := hc
      have HP := Lib.hid hp; clear hp
      subst ha
      have HT := Lib.hid (toCand_any c.p.num c.p.fst c.p.lst c.p.born c.p.zone c.cit c.con c.flu c.job wr)
      go_wp2_with fail
      refine HT.out.mono ?_; rintro e w2 ⟨rfl, hB⟩
      have hR2 : w2.rowIs w.heap.size 30 (len * 9) f := HR.out.of_block (hB.block _ HR.out.lt)
      have HR2 := Lib.hid hR2; have HB2 := Lib.hid (HB.out.trans (hB.mono HB.out.size))
      have q0 := hR2.cell (show k * 9 < len * 9 by omega); have r0 := hR2.frozen (k * 9)
      have q1 := hR2.cell (show k * 9 + 1 < len * 9 by omega); have r1 := hR2.frozen (k * 9 + 1)
      have q2 := hR2.cell (show k * 9 + 2 < len * 9 by omega); have r2 := hR2.frozen (k * 9 + 2)
      have q3 := hR2.cell (show k * 9 + 3 < len * 9 by omega); have r3 := hR2.frozen (k * 9 + 3)
      have q4 := hR2.cell (show k * 9 + 4 < len * 9 by omega); have r4 := hR2.frozen (k * 9 + 4)
      have q5 := hR2.cell (show k * 9 + 5 < len * 9 by omega); have r5 := hR2.frozen (k * 9 + 5)
      have q6 := hR2.cell (show k * 9 + 6 < len * 9 by omega); have r6 := hR2.frozen (k * 9 + 6)
      have q7 := hR2.cell (show k * 9 + 7 < len * 9 by omega); have r7 := hR2.frozen (k * 9 + 7)
      have q8 := hR2.cell (show k * 9 + 8 < len * 9 by omega); have r8 := hR2.frozen (k * 9 + 8)
      clear hB c0 c1 c2 c3 c4 c5 c6 c7 c8 hR2
      go_wp2_with fail
      go_roundw
      case rel => exact ⟨k + 1, by omega, by go_num, (((((((((HB2.out.setCell (Nat.le_refl _) _).setCell (Nat.le_refl _) _).setCell (Nat.le_refl _) _).setCell (Nat.le_refl _) _).setCell (Nat.le_refl _) _).setCell (Nat.le_refl _) _).setCell (Nat.le_refl _) _).setCell (Nat.le_refl _) _).setCell (Nat.le_refl _) _), _, row_put9 HR2.out k c, HF.out.step HP.out⟩
      case measure => simp [intOf]; omega
    · go_wp2
      go_ret
      exact copiedC HR.out HL.out (fun i x hi hx => HF.out i x (by omega) hx) HB.out

set_option maxRecDepth 100000 in
set_option maxHeartbeats 4000000 in
/-- two slices that read the same candidates are told to be the same -/
theorem eqCandS_same (a a' : Option Addr) (len cap cap' : Nat) (cs : List Cand) (w : World) (hl : cs.length = len) (hm : len ≤ 1048576) (h : CandsAt w a cs) (h' : CandsAt w a' cs) :
    Calls Try.prog 40 #[.slice a len cap, .slice a' len cap'] w (fun e w' => e = .returned (.bool true) ∧ Below w.heap.size w w') := by
  have HL := Lib.hid hl; have HI := Lib.hid h; have HI' := Lib.hid h'; clear hl h h'
  go_enter Try.func40, Try.ntmps40
  go_wp2
  go_loopw [5] (fun i wr => ∃ k : Nat, k ≤ len ∧ i = .int .i64 k ∧ Below w.heap.size w wr) (fun i _ => len - (intOf i).toNat)
  case atStart => exact ⟨0, Nat.zero_le _, rfl, Below.refl _ _⟩
  case round =>
    obtain ⟨k, hk, rfl, hB⟩ := hrel
    have HB := Lib.hid hB; clear hB
    by_cases hlt : k < len
    · obtain ⟨b, off, c, rfl, hc, hp⟩ := (HI.out.below HB.out).at HL.out hlt
      obtain ⟨b', off', c', rfl, hc', hp'⟩ := (HI'.out.below HB.out).at HL.out hlt
      obtain rfl : c = c' := Option.some.inj (hp.symm.trans hp')
      go_wp2_with fail
      obtain ⟨d0, d1, d2, d3, d4, d5, d6, d7, d8⟩ := hc
      obtain ⟨g0, g1, g2, g3, g4, g5, g6, g7, g8⟩ := hc'
      have k0 := cell_regrown d0; have l0 := cell_regrown g0
      have k1 := cell_regrown d1; have l1 := cell_regrown g1
      have k2 := cell_regrown d2; have l2 := cell_regrown g2
      have k3 := cell_regrown d3; have l3 := cell_regrown g3
      have k4 := cell_regrown d4; have l4 := cell_regrown g4
      have k5 := cell_regrown d5; have l5 := cell_regrown g5
      have k6 := cell_regrown d6; have l6 := cell_regrown g6
      have k7 := cell_regrown d7; have l7 := cell_regrown g7
      have k8 := cell_regrown d8; have l8 := cell_regrown g8
      clear d0 d1 d2 d3 d4 d5 d6 d7 d8 g0 g1 g2 g3 g4 g5 g6 g7 g8
      have hcall := regr_call (w := wr) (fun W _ => show Calls Try.prog 68 #[.agg #[.int .i64 c.p.num, .string c.p.fst, .string c.p.lst, .int .i64 c.p.born, .int .i64 c.p.zone, .bool c.cit, .bool c.con, .bool c.flu, .int .i64 c.job], .agg #[.int .i64 c.p.num, .string c.p.fst, .string c.p.lst, .int .i64 c.p.born, .int .i64 c.p.zone, .bool c.cit, .bool c.con, .bool c.flu, .int .i64 c.job]] W _ from eqCand_self c.p.num c.p.fst c.p.lst c.p.born c.p.zone c.cit c.con c.flu c.job W)
      cases k with
      | zero =>
        simp only [Nat.zero_mul, Nat.add_zero] at k0 k1 k2 k3 k4 k5 k6 k7 k8 l0 l1 l2 l3 l4 l5 l6 l7 l8
        refine wp_region_quiet_below (by kernel_rfl) (by kernel_rfl) ?_
        iterate 10 (go_big_quiet_step (exact hcall _ _))
        refine wpQuiet_nil ?_
        intro _ hw'
        obtain ⟨⟨dq, osq⟩, hw''⟩ := hw'
        subst hw''
        have HB5 := Lib.hid (HB.out.trans ((below_regrown wr dq osq).mono HB.out.size))
        clear hcall k0 k1 k2 k3 k4 k5 k6 k7 k8 l0 l1 l2 l3 l4 l5 l6 l7 l8
        generalize grow (redrawn wr dq) osq = w5 at HB5 ⊢
        go_wp2_with fail
        go_roundw
        case rel => exact ⟨1, by omega, by go_num, HB5.out⟩
        case measure => simp [intOf]; omega
      | succ q =>
        refine wp_region_quiet_below (by kernel_rfl) (by kernel_rfl) ?_
        iterate 10 (go_big_quiet_step (exact hcall _ _))
        refine wpQuiet_nil ?_
        intro _ hw'
        obtain ⟨⟨dq, osq⟩, hw''⟩ := hw'
        subst hw''
        have HB5 := Lib.hid (HB.out.trans ((below_regrown wr dq osq).mono HB.out.size))
        clear hcall k0 k1 k2 k3 k4 k5 k6 k7 k8 l0 l1 l2 l3 l4 l5 l6 l7 l8
        generalize grow (redrawn wr dq) osq = w5 at HB5 ⊢
        go_wp2_with fail
        go_roundw
        case rel => exact ⟨q + 1 + 1, by omega, by go_num, HB5.out⟩
        case measure => simp [intOf]; omega
    · go_wp2
      go_ret
      exact ⟨rfl, HB.out⟩

set_option maxRecDepth 100000 in
set_option maxHeartbeats 8000000 in
theorem markCandS_any (b len cap : Nat) (k : Int) (w : World) (hl : len ≤ 10000000) (h0 : 0 < k) (h1 : k ≤ 1000000000) (h : ∃ f, w.rowIs b 30 (len * 9) f) :
    Calls Try.prog 42 #[.slice (some ⟨b, 0, none⟩) len cap, .int .i64 k] w (fun e w' => e = .returned (.int .i64 (k + 9 * len)) ∧ w.grownBy w' (some b)) := by
  obtain ⟨f, hr⟩ := h
  have HR := Lib.hid hr; clear hr
  go_enter Try.func42, Try.ntmps42
  go_wp2
  go_loopw [1, 5] (fun kk i wr => ∃ n : Nat, n ≤ len ∧ i = .int .i64 n ∧ kk = .int .i64 (k + 9 * n) ∧ w.grownBy wr (some b) ∧ ∃ f, wr.rowIs b 30 (len * 9) f) (fun _ i _ => len - (intOf i).toNat)
  case atStart => exact ⟨0, Nat.zero_le _, rfl, by simp, ⟨rfl, rfl, rfl, Nat.le_refl _, fun _ _ _ => rfl⟩, _, HR.out⟩
  case round =>
    obtain ⟨n, hn, rfl, rfl, hg, f, hr⟩ := hrel
    have HG := Lib.hid hg; have HR := Lib.hid hr; clear hg hr
    by_cases hlt : n < len
    · have hN : n * 9 + 8 < len * 9 := by omega
      have c0 := HR.out.cell (show n * 9 < len * 9 by omega)
      have f0 := HR.out.frozen (n * 9)
      have HC1 := Lib.hid (fun W => markText_any (k + 9 * n + 1) W (by omega) (by omega))
      have HC2 := Lib.hid (fun W => markText_any (k + 9 * n + 1 + 1) W (by omega) (by omega))
      have HR0 := Lib.hid (HR.out.set (n * 9) (.int .i64 (k + 9 * n)))
      have HG0 := Lib.hid (grown_on HG.out (grown_cell wr b (n * 9) (.int .i64 (k + 9 * n))))
      go_wp2_with fail
      clear c0 f0
      generalize wr.setCell ⟨b, n * 9, none⟩ (.int .i64 (k + 9 * n)) = wq at HR0 HG0 ⊢
      refine (HC1.out _).mono ?_; rintro e w1 ⟨rfl, hB1⟩
      have HR1 := Lib.hid (HR0.out.of_block (hB1.block b HR0.out.lt))
      have HG1 := Lib.hid (grown_on HG0.out (grown_below1 hB1)); clear hB1
      have c1 := HR1.out.cell (show n * 9 + 1 < len * 9 by omega)
      have f1 := HR1.out.frozen (n * 9 + 1)
      have HR2 := Lib.hid (HR1.out.set (n * 9 + 1) (.string (mk (k + 9 * n + 1))))
      have HG2 := Lib.hid (grown_on HG1.out (grown_cell w1 b (n * 9 + 1) (.string (mk (k + 9 * n + 1)))))
      go_wp2_with fail
      clear c1 f1
      generalize w1.setCell ⟨b, n * 9 + 1, none⟩ (.string (mk (k + 9 * n + 1))) = wq2 at HR2 HG2 ⊢
      refine (HC2.out _).mono ?_; rintro e w3 ⟨rfl, hB3⟩
      have HR3 := Lib.hid (HR2.out.of_block (hB3.block b HR2.out.lt))
      have HG3 := Lib.hid (grown_on HG2.out (grown_below1 hB3)); clear hB3
      have c2 := HR3.out.cell (show n * 9 + 2 < len * 9 by omega); have f2 := HR3.out.frozen (n * 9 + 2)
      have c3 := HR3.out.cell (show n * 9 + 3 < len * 9 by omega); have f3 := HR3.out.frozen (n * 9 + 3)
      have c4 := HR3.out.cell (show n * 9 + 4 < len * 9 by omega); have f4 := HR3.out.frozen (n * 9 + 4)
      have c5 := HR3.out.cell (show n * 9 + 5 < len * 9 by omega); have f5 := HR3.out.frozen (n * 9 + 5)
      have c6 := HR3.out.cell (show n * 9 + 6 < len * 9 by omega); have f6 := HR3.out.frozen (n * 9 + 6)
      have c7 := HR3.out.cell (show n * 9 + 7 < len * 9 by omega); have f7 := HR3.out.frozen (n * 9 + 7)
      have c8 := HR3.out.cell (show n * 9 + 8 < len * 9 by omega); have f8 := HR3.out.frozen (n * 9 + 8)
      go_wp2_with fail
      go_roundw
      case rel => exact ⟨n + 1, by omega, by go_num, by congr 1; omega, (grown_on (grown_on (grown_on (grown_on (grown_on (grown_on (grown_on HG3.out (grown_cell _ _ _ _)) (grown_cell _ _ _ _)) (grown_cell _ _ _ _)) (grown_cell _ _ _ _)) (grown_cell _ _ _ _)) (grown_cell _ _ _ _)) (grown_cell _ _ _ _)), _, (((((((HR3.out.set _ _).set _ _).set _ _).set _ _).set _ _).set _ _).set _ _)⟩
      case measure => simp [intOf]; omega
    · have HN := Lib.hid (show n = len by omega)
      go_wp2
      go_ret
      exact ⟨ret_i64 (by rw [HN.out]), HG.out⟩

end Go.Proofs.Ytjnjmoiilapbiaa
