/- Contracts of the program's chapter 9: errors and their codes; open, overdue, reminded summonses. (written by impl9.py) -/
import Derived.Test.YtchffaohmeaccaaDoorChecked
import Derived.Test.YtchffaohmeaccaaDoorBase0
import Derived.Test.YtchffaohmeaccaaDoorInfo
import Derived.Test.YtchffaohmeaccaaDoorMarkI
import Derived.Test.YtchffaohmeaccaaDoorIntL
import Derived.Test.YtchffaohmeaccaaDoorBuildI
import Derived.Test.YtchffaohmeaccaaDoorSummonsB
import Derived.Test.YtchffaohmeaccaaDoorAsR
import Derived.Test.YtchffaohmeaccaaDoorAreDays
import Derived.Test.YtchffaohmeaccaaDoorImpl9a
import Derived.Test.YtchffaohmeaccaaDoorImpl9b
import Derived.Shelf.Abstract
import Derived.WalkKit
import Derived.WalkSpells
import Derived.WalkLawsBesides
import Derived.Lib.Hide
import Derived.Lib.QuietBelow
import Derived.IntWalk
import Derived.Deep.QuietTactic
import Derived.BigQuiet
import Derived.BigRegion
import Derived.OwnWalk
import Derived.RegionTactic
import Derived.Outline
namespace Go.Proofs.YtchffaohmeaccaaDoor
open Go.Shelf Go.RowKit Go.Sort Pure1 Pure2 Pure20 Pure40

theorem as_hit_any (k : Int) (b : Nat) (old : Value) (w : World) (hg : TypeAt w) (ht : w.cell? ⟨b, 0, none⟩ = some old) (hf : w.frozen? ⟨b, 0, none⟩ = false) :
    Calls Tryd.prog 70 #[.iface 81 (.int .i64 k), .iface 83 (.pointer (some ⟨b, 0, none⟩))] w fun e w' => e = .returned (.bool true) ∧ w'.cell? ⟨b, 0, none⟩ = some (.int .i64 k) ∧ Below b w w' := by
  have hb : b < w.heap.size := World.block_lt_of_cell? w _ ht
  refine (as_hit k ⟨b, 0, none⟩ old w hg ht hf).mono ?_
  rintro e w' ⟨rfl, rfl⟩
  have hB := (((((Below.refl b w).alloc (show b ≤ w.heap.size by omega) (.cells #[.pointer (some ⟨b, 0, none⟩)] 83)).alloc (by simp; omega) (.cells #[.pointer (some ⟨1, 83, none⟩), .pointer (some ⟨w.heap.size, 0, none⟩), .int .u64 150] 99)).alloc (by simp; omega) (.cells #[.pointer (some ⟨1, 83, none⟩), .pointer (some ⟨w.heap.size, 0, none⟩), .int .u64 150] 99)).alloc (by simp; omega) (.cells #[.int .i64 k] 81))
  refine ⟨rfl, ?_, hB.setCell (Nat.le_refl _) _⟩
  have h4 : ((((w.alloc (.cells #[.pointer (some ⟨b, 0, none⟩)] 83)).alloc (.cells #[.pointer (some ⟨1, 83, none⟩), .pointer (some ⟨w.heap.size, 0, none⟩), .int .u64 150] 99)).alloc (.cells #[.pointer (some ⟨1, 83, none⟩), .pointer (some ⟨w.heap.size, 0, none⟩), .int .u64 150] 99)).alloc (.cells #[.int .i64 k] 81)).cell? ⟨b, 0, none⟩ = some old := by
    rw [World.cell?_alloc_lt _ _ _ (by simp; omega), World.cell?_alloc_lt _ _ _ (by simp; omega), World.cell?_alloc_lt _ _ _ (by simp; omega), World.cell?_alloc_lt _ _ _ hb]; exact ht
  exact World.cell?_setCell_same' _ _ _ (by rw [h4]; rfl)

/-- an error that holds a code; no error for the code 0 -/
def errV (c : Int) : Value := if c = 0 then .nilIface else .iface 81 (.int .i64 c)
theorem errV_0 : errV 0 = .nilIface := if_pos rfl
theorem errV_ne {c : Int} (h : c ≠ 0) : errV c = .iface 81 (.int .i64 c) := if_neg h
set_option maxHeartbeats 1000000 in
theorem implCodeNil (w : World) :
    Calls Tryd.prog 47 #[.nilIface] w fun e w' => e = .returned (.int .i64 0) ∧ Below w.heap.size w w' := by
  have HW := Lib.hid ((Below.refl w.heap.size w).alloc (Nat.le_refl _) (.cells #[.int .i64 0] 81))
  have HC := Lib.hid (fun t W => as_nil t W)
  go_enter Tryd.func47, Tryd.ntmps47
  go_wp2_with fail
  refine (HC.out _ _).mono ?_; rintro e w1 ⟨rfl, rfl⟩
  go_wp2_with fail
  go_ret
  exact ⟨rfl, HW.out⟩
set_option maxHeartbeats 1000000 in
theorem implCodeHit (k : Int) (w : World) (hg : TypeAt w) :
    Calls Tryd.prog 47 #[.iface 81 (.int .i64 k)] w fun e w' => e = .returned (.int .i64 k) ∧ Below w.heap.size w w' := by
  have HW := Lib.hid ((Below.refl w.heap.size w).alloc (Nat.le_refl _) (.cells #[.int .i64 0] 81))
  have HC := Lib.hid (as_hit_any k w.heap.size (.int .i64 0) (w.alloc (.cells #[.int .i64 0] 81)) (hg.below HW.out) (by simp) (by simp))
  clear hg
  go_enter Tryd.func47, Tryd.ntmps47
  go_wp2_with fail
  refine HC.out.mono ?_; rintro e w1 ⟨rfl, hc, hB⟩
  have HB := Lib.hid (HW.out.trans hB); clear hB
  go_wp2_with fail
  go_ret
  exact ⟨rfl, HB.out⟩
theorem implCode9 (c : Int) (w : World) (hg : TypeAt w) :
    Calls Tryd.prog 47 #[errV c] w fun e w' => e = .returned (.int .i64 c) ∧ Below w.heap.size w w' := by
  by_cases h : c = 0
  · rw [h, errV_0]; exact implCodeNil w
  · rw [errV_ne h]; exact implCodeHit c w hg

set_option maxHeartbeats 1000000 in
theorem implCheck9_any (a : Option Addr) (len cap : Nat) (ts : List Summons) (d : Int) (w : World) (hl : ts.length = len) (hm : len ≤ maxLen) (h : Summons.ListAt w a ts) :
    Calls Tryd.prog 51 #[.slice a len cap, .int .i64 d] w fun e w' => e = .returned (errV (codeM ts d)) ∧ Below w.heap.size w w' := by
  have HT := Lib.hid (implAreM_any a len cap ts w hl hm h)
  have H1 := Lib.hid (fun W => implAreDays_any (some ⟨W.heap.size, 0, none⟩) 1 1 [d] (W.alloc (.cells #[.int .i64 d] 2)) rfl (by omega) (one_day9 W d))
  rw [all_one9] at H1
  clear h hl
  cases hb1 : areM ts
  · have HN := Lib.hid (show errV (codeM ts d) = .iface 81 (.int .i64 1) by rw [codeM_1 (d := d) hb1]; rfl)
    generalize errV (codeM ts d) = v at HN ⊢
    rw [hb1] at HT; clear hb1
    go_enter Tryd.func51, Tryd.ntmps51
    go_wp2_with fail
    refine HT.out.mono ?_; rintro e w1 ⟨rfl, hB⟩
    have HB := Lib.hid hB; clear hB
    go_wp2_with fail
    go_ret
    exact ⟨by rw [HN.out]; rfl, HB.out⟩
  · cases hb2 : isDay d
    · have HN := Lib.hid (show errV (codeM ts d) = .iface 81 (.int .i64 2) by rw [codeM_2 hb1 hb2]; rfl)
      generalize errV (codeM ts d) = v at HN ⊢
      rw [hb1] at HT; rw [hb2] at H1; clear hb1 hb2
      go_enter Tryd.func51, Tryd.ntmps51
      go_wp2_with fail
      refine HT.out.mono ?_; rintro e w1 ⟨rfl, hB⟩
      have HB := Lib.hid (hB.alloc hB.size (.cells #[.int .i64 d] 2)); clear hB
      go_wp2_with fail
      refine (H1.out w1).mono ?_; rintro e w2 ⟨rfl, hw⟩
      subst hw
      go_wp2_with fail
      go_ret
      exact ⟨by rw [HN.out]; rfl, HB.out⟩
    · have HN := Lib.hid (show errV (codeM ts d) = .nilIface by rw [codeM_0 hb1 hb2]; rfl)
      generalize errV (codeM ts d) = v at HN ⊢
      rw [hb1] at HT; rw [hb2] at H1; clear hb1 hb2
      go_enter Tryd.func51, Tryd.ntmps51
      go_wp2_with fail
      refine HT.out.mono ?_; rintro e w1 ⟨rfl, hB⟩
      have HB := Lib.hid (hB.alloc hB.size (.cells #[.int .i64 d] 2)); clear hB
      go_wp2_with fail
      refine (H1.out w1).mono ?_; rintro e w2 ⟨rfl, hw⟩
      subst hw
      go_wp2_with fail
      go_ret
      exact ⟨by rw [HN.out]; rfl, HB.out⟩

def SaysOnE (zs : List Int) (c : Int) (w : World) (e : Ending) (w' : World) : Prop := ∃ v, e = .returned (.tuple #[v, errV c]) ∧ BuildI w.heap.size w' v zs ∧ Below w.heap.size w w'
set_option maxRecDepth 100000 in
set_option maxHeartbeats 4000000 in
theorem implNumbersOn_any (p : Int → Summons → Bool) (F : FuncId) (a : Option Addr) (len cap : Nat) (ts : List Summons) (d : Int) (w : World) (hl : ts.length = len) (hm : len ≤ maxLen) (h : Summons.ListAt w a ts)
    (hE : ∀ args w, (callFunc F args).run Tryd.prog w = .ok (.enter F args) w)
    (hP : ∀ (c : Summons) (W : World), 0 ≤ c.due → c.due ≤ 20000 → Calls Tryd.prog F #[.agg #[.int .i64 c.num, .int .i64 c.sent, .int .i64 c.due, .int .i64 c.ans, .int .i64 c.done], .int .i64 d] W fun e w' => e = .returned (.bool (p d c)) ∧ Below W.heap.size W w') :
    Calls Tryd.prog 45 #[.slice a len cap, .int .i64 d, .func (.func F) #[] #[]] w (SaysOnE (onR p ts d).1 (onR p ts d).2 w) := by
  have HC := Lib.hid (implCheck9_any a len cap ts d w hl hm h)
  rcases codeM_cases ts d with ⟨hc, hA, hd⟩ | hc | hc
  · have HF := Lib.hid (onR_ok (p := p) hc)
    have HK := Lib.hid (fun (i : Nat) c (hp : ts[i]? = some c) => okM_parts (areM_at hA hp))
    have hlen : len ≤ 20 := by rw [← hl]; exact areM_len hA
    have HL := Lib.hid hl; have HI := Lib.hid h; clear hl h hm
    rw [hc, errV_0] at HC; clear hc hA
    generalize onR p ts d = v at HF ⊢
    go_enter Tryd.func45, Tryd.ntmps45
    go_wp2_with fail
    refine HC.out.mono ?_; rintro e w1 ⟨rfl, hB⟩
    have HB1 := Lib.hid hB; clear hB HC
    go_wp2_with fail
    go_loopw [9, 11, 20] (fun v _ i wr => ∃ k : Nat, k ≤ len ∧ i = .int .i64 k ∧ BuildI w.heap.size wr v (numsMo (p d) ts k) ∧ Below w.heap.size w wr) (fun _ _ i _ => len - (intOf i).toNat)
    case atStart => exact ⟨0, Nat.zero_le _, rfl, BuildI.nil _ _, HB1.out⟩
    case round =>
      obtain ⟨k, hk, rfl, ho, hB⟩ := hrel
      have HO := Lib.hid ho; have HB := Lib.hid hB; clear ho hB
      by_cases hlt : k < len
      · obtain ⟨b, off, c, ha, hc, hp⟩ := (HI.out.below HB.out).at HL.out hlt
        have HP := Lib.hid hp; clear hp
        subst ha
        obtain ⟨c0, c1, c2, c3, c4⟩ := hc
        have hdue := HK.out _ _ HP.out
        have HT := Lib.hid (fun W => hP c W (by omega) (by omega))
        clear hdue
        have HZ := Lib.hid (Nat.le_trans (numsMo_len (p d) ts k) (show k ≤ 20 by omega))
        have HB2 := Lib.hid (HB.out.alloc HB.out.size (.cells #[.int .i64 c.num, .int .i64 c.sent, .int .i64 c.due, .int .i64 c.ans, .int .i64 c.done] 53))
        have HO2 := Lib.hid (HO.out.alloc (.cells #[.int .i64 c.num, .int .i64 c.sent, .int .i64 c.due, .int .i64 c.ans, .int .i64 c.done] 53))
        have HX := Lib.hid (Summons.boxed wr c 53)
        obtain ⟨x0, x1, x2, x3, x4⟩ := HX.out
        cases hv : p d c
        · have HN := Lib.hid (numsMo_no (p := p d) HP.out hv)
          rw [hv] at HT; clear hv
          go_wp2_with fail
          refine (HT.out _).mono ?_; rintro e w3 ⟨rfl, hB⟩
          have HB3 := Lib.hid (HB2.out.trans (hB.mono HB2.out.size)); have HO3 := Lib.hid (HO2.out.below hB)
          clear hB c0 c1 c2 c3 c4 x0 x1 x2 x3 x4
          go_wp2_with fail
          go_roundw
          case rel => exact ⟨k + 1, by omega, by go_num, by rw [HN.out]; exact HO3.out, HB3.out⟩
          case measure => simp [intOf]; omega
        · have HN := Lib.hid (numsMo_yes (p := p d) HP.out hv)
          rw [hv] at HT; clear hv
          go_wp2_with fail
          refine (HT.out _).mono ?_; rintro e w3 ⟨rfl, hB⟩
          have HB3 := Lib.hid (HB2.out.trans (hB.mono HB2.out.size)); have HO3 := Lib.hid (HO2.out.below hB)
          have hx3 := HX.out.below hB
          clear hB c0 c1 c2 c3 c4 x0 x1 x2 x3 x4
          obtain ⟨x0, x1, x2, x3, x4⟩ := hx3
          have HO4 := Lib.hid (HO3.out.alloc (.cells #[.int .i64 c.num] 2))
          have HB4 := Lib.hid (HB3.out.alloc HB3.out.size (.cells #[.int .i64 c.num] 2))
          generalize numsMo (p d) ts k = zs at HO HN HZ HO2 HO3 HO4 ⊢
          go_wp2_with (at_builtin; refine wpList_int_append (B := w.heap.size) rfl _ _ rfl _ zs rfl HO4.out _ c.num rfl (BuildI.lit1 _ _ _) ?c1 ?c2 ?_)
          case c1 => have := HZ.out; omega
          case c2 => exact HB4.out.size
          intro v' w5 ho5 hg5
          have HO5 := Lib.hid ho5
          have HB5 := Lib.hid (HO4.out.grew HB4.out (Nat.le_refl _) HB4.out.size hg5)
          clear ho5 hg5 x0 x1 x2 x3 x4
          go_wp2_with fail
          go_roundw
          case rel => exact ⟨k + 1, by omega, by go_num, by rw [HN.out]; exact HO5.out, HB5.out⟩
          case measure => simp [intOf]; omega
      · have HZ := Lib.hid (numsMo_end (p := p d) (show ts.length ≤ k by rw [HL.out]; omega))
        go_wp2_with fail
        go_ret2
        rw [HF.out]
        exact ⟨_, rfl, by rw [← HZ.out]; exact HO.out, HB.out⟩
  · have HF := Lib.hid (onR_bad (p := p) hc (by omega))
    rw [hc, errV_ne (by omega)] at HC; clear hc
    generalize onR p ts d = v at HF ⊢
    go_enter Tryd.func45, Tryd.ntmps45
    go_wp2_with fail
    refine HC.out.mono ?_; rintro e w1 ⟨rfl, hB⟩
    have HB := Lib.hid hB; clear hB
    go_wp2_with fail
    go_ret2
    rw [HF.out]
    exact ⟨_, rfl, BuildI.nil _ _, HB.out⟩
  · have HF := Lib.hid (onR_bad (p := p) hc (by omega))
    rw [hc, errV_ne (by omega)] at HC; clear hc
    generalize onR p ts d = v at HF ⊢
    go_enter Tryd.func45, Tryd.ntmps45
    go_wp2_with fail
    refine HC.out.mono ?_; rintro e w1 ⟨rfl, hB⟩
    have HB := Lib.hid hB; clear hB
    go_wp2_with fail
    go_ret2
    rw [HF.out]
    exact ⟨_, rfl, BuildI.nil _ _, HB.out⟩

/-- numbers of our own and a code are returned -/
def SaysBE9 (zs : List Int) (n : Int) (w : World) (e : Ending) (w' : World) : Prop := ∃ v, e = .returned (.tuple #[v, .int .i64 n]) ∧ BuildI w.heap.size w' v zs ∧ Below w.heap.size w w'

set_option maxRecDepth 100000 in
set_option maxHeartbeats 1000000 in
theorem implOpenOn_any (a : Option Addr) (len cap : Nat) (ts : List Summons) (d : Int) (w : World) (hl : ts.length = len) (hm : len ≤ maxLen) (h : Summons.ListAt w a ts) (hg : TypeAt w) :
    Calls Tryd.prog 21 #[.slice a len cap, .int .i64 d] w (SaysBE9 (onR openM ts d).1 (onR openM ts d).2 w) := by
  have HC := Lib.hid (implNumbersOn_any openM 55 a len cap ts d w hl hm h (enters_of Tryd.func55 (by kernel_rfl) rfl) (fun c W _ _ => implOpen9_any c d W))
  have HT := Lib.hid (fun (W : World) (hB : Below w.heap.size w W) => implCode9 (onR openM ts d).2 W (hg.below hB))
  clear h hg
  obtain ⟨zs, c, hr⟩ : ∃ zs c, onR openM ts d = (zs, c) := ⟨_, _, rfl⟩
  rw [hr] at HC HT ⊢
  clear hr
  go_enter Tryd.func21, Tryd.ntmps21
  go_wp2_with fail
  refine HC.out.mono ?_; rintro e w1 ⟨v, rfl, ho, hB⟩
  have HO := Lib.hid ho; have HB := Lib.hid hB
  have HT1 := Lib.hid (HT.out w1 hB); clear ho hB
  (try simp only at HT1)
  go_wp2_with fail
  refine HT1.out.mono ?_; rintro e w2 ⟨rfl, hB⟩
  have HO2 := Lib.hid (HO.out.below hB); have HB2 := Lib.hid (HB.out.trans (hB.mono HB.out.size)); clear hB
  go_wp2_with fail
  go_ret2
  exact ⟨_, rfl, HO2.out, HB2.out⟩

set_option maxRecDepth 100000 in
set_option maxHeartbeats 1000000 in
theorem implOverdueOn_any (a : Option Addr) (len cap : Nat) (ts : List Summons) (d : Int) (w : World) (hl : ts.length = len) (hm : len ≤ maxLen) (h : Summons.ListAt w a ts) (hg : TypeAt w) :
    Calls Tryd.prog 39 #[.slice a len cap, .int .i64 d] w (SaysBE9 (onR overM ts d).1 (onR overM ts d).2 w) := by
  have HC := Lib.hid (implNumbersOn_any overM 66 a len cap ts d w hl hm h (enters_of Tryd.func66 (by kernel_rfl) rfl) (fun c W _ _ => implOver9_any c d W))
  have HT := Lib.hid (fun (W : World) (hB : Below w.heap.size w W) => implCode9 (onR overM ts d).2 W (hg.below hB))
  clear h hg
  obtain ⟨zs, c, hr⟩ : ∃ zs c, onR overM ts d = (zs, c) := ⟨_, _, rfl⟩
  rw [hr] at HC HT ⊢
  clear hr
  go_enter Tryd.func39, Tryd.ntmps39
  go_wp2_with fail
  refine HC.out.mono ?_; rintro e w1 ⟨v, rfl, ho, hB⟩
  have HO := Lib.hid ho; have HB := Lib.hid hB
  have HT1 := Lib.hid (HT.out w1 hB); clear ho hB
  (try simp only at HT1)
  go_wp2_with fail
  refine HT1.out.mono ?_; rintro e w2 ⟨rfl, hB⟩
  have HO2 := Lib.hid (HO.out.below hB); have HB2 := Lib.hid (HB.out.trans (hB.mono HB.out.size)); clear hB
  go_wp2_with fail
  go_ret2
  exact ⟨_, rfl, HO2.out, HB2.out⟩

set_option maxRecDepth 100000 in
set_option maxHeartbeats 1000000 in
theorem implRemindersOn_any (a : Option Addr) (len cap : Nat) (ts : List Summons) (d : Int) (w : World) (hl : ts.length = len) (hm : len ≤ maxLen) (h : Summons.ListAt w a ts) (hg : TypeAt w) :
    Calls Tryd.prog 13 #[.slice a len cap, .int .i64 d] w (SaysBE9 (onR remM ts d).1 (onR remM ts d).2 w) := by
  have HC := Lib.hid (implNumbersOn_any remM 46 a len cap ts d w hl hm h (enters_of Tryd.func46 (by kernel_rfl) rfl) (fun c W h0 h1 => implRem9_any c d W h0 h1))
  have HT := Lib.hid (fun (W : World) (hB : Below w.heap.size w W) => implCode9 (onR remM ts d).2 W (hg.below hB))
  clear h hg
  obtain ⟨zs, c, hr⟩ : ∃ zs c, onR remM ts d = (zs, c) := ⟨_, _, rfl⟩
  rw [hr] at HC HT ⊢
  clear hr
  go_enter Tryd.func13, Tryd.ntmps13
  go_wp2_with fail
  refine HC.out.mono ?_; rintro e w1 ⟨v, rfl, ho, hB⟩
  have HO := Lib.hid ho; have HB := Lib.hid hB
  have HT1 := Lib.hid (HT.out w1 hB); clear ho hB
  (try simp only at HT1)
  go_wp2_with fail
  refine HT1.out.mono ?_; rintro e w2 ⟨rfl, hB⟩
  have HO2 := Lib.hid (HO.out.below hB); have HB2 := Lib.hid (HB.out.trans (hB.mono HB.out.size)); clear hB
  go_wp2_with fail
  go_ret2
  exact ⟨_, rfl, HO2.out, HB2.out⟩
end Go.Proofs.YtchffaohmeaccaaDoor
