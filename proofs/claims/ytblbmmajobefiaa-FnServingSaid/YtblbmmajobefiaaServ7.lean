/- Contracts of chapter 7's model: who serves on a day, who has served for too long. -/
import Derived.Test.YtblbmmajobefiaaChecked
import Derived.Test.YtblbmmajobefiaaBase
import Derived.Test.YtblbmmajobefiaaInfo
import Derived.Test.YtblbmmajobefiaaTermA
import Derived.Test.YtblbmmajobefiaaPure70
import Derived.Test.YtblbmmajobefiaaSpec7
import Derived.Test.YtblbmmajobefiaaSpec7b
import Derived.Test.YtblbmmajobefiaaIntL
import Derived.Test.YtblbmmajobefiaaIns7
import Derived.WalkKit
import Derived.WalkSpells
import Derived.WalkLawsBesides
import Derived.Lib.Hide
import Derived.IntWalk
import Derived.Deep.QuietTactic
import Derived.BigQuiet
import Derived.Outline
namespace Go.Proofs.Ytblbmmajobefiaa
open Go.RowKit Pure1 Pure2 Pure20 Pure40

def lenV : Value → Nat
  | .slice _ n _ => n
  | _ => 0
theorem IntL.drew {w : World} {B n : Nat} {v : Value} {zs : List Int} (h : IntL w B v zs) : IntL (w.drewN n) B v zs := h.below (Go.below_drewN (Below.refl _ _) n)

set_option maxRecDepth 100000 in
set_option maxHeartbeats 2000000 in
theorem specServing7_any (a : Option Addr) (len cap : Nat) (ts : List Term) (d : Int) (w : World) (hl : ts.length = len) (hm : len ≤ 20) (h : Term.ListAt w a ts) :
    Calls Try.prog 65 #[.slice a len cap, .int .i64 d] w fun e w' => ∃ v, e = .returned v ∧ IntL w' w.heap.size v (servL ts d) ∧ Below w.heap.size w w' := by
  have HL := Lib.hid hl; have HI := Lib.hid h; clear hl h
  have HE := Lib.hid (intL_empty (w := w) (Nat.le_refl w.heap.size))
  go_enter Try.func65, Try.ntmps65
  go_wp2
  go_loopw [5, 6] (fun v i wr => ∃ k : Nat, k ≤ len ∧ i = .int .i64 k ∧ IntL wr w.heap.size v (numsTo (serves d) ts k) ∧ Below w.heap.size w wr) (fun _ i _ => len - (intOf i).toNat)
  case atStart => exact ⟨0, Nat.zero_le _, rfl, HE.out, (Below.refl _ _).alloc (Nat.le_refl _) _⟩
  case round =>
    obtain ⟨k, hk, rfl, ho, hB⟩ := hrel
    obtain ⟨⟨g, cap2, rfl⟩, _⟩ := id ho
    have HO := Lib.hid ho; have HB := Lib.hid hB; clear ho hB
    by_cases hlt : k < len
    · obtain ⟨b, off, c, rfl, hc, hp⟩ := (HI.out.below HB.out).at HL.out hlt
      have HP := Lib.hid hp; clear hp
      have hzl := numsTo_len (serves d) ts k
      cases hv : serves d c
      · have HN := Lib.hid (numsTo_no HP.out hv)
        have HC := Lib.hid (show ∀ W, Calls Try.prog 73 #[.int .i64 d, .int .i64 c.frm, .int .i64 c.to] W fun e w' => e = .returned (.bool false) ∧ w' = W from fun W => by have e := specIn7 d c.frm c.to W; rw [show inR d c.frm c.to = false from hv] at e; exact e)
        obtain ⟨c0, c1, c2⟩ := hc
        clear hv
        go_wp2
        go_quiet ((go_at_call 73; exact Calls.quiet_of_same (HC.out _)))
        go_wp2
        go_roundw
        case rel => exact ⟨k + 1, by omega, by go_num, by rw [HN.out]; exact HO.out.drew, Go.below_drewN HB.out _⟩
        case measure => simp [intOf]; omega
      · have HN := Lib.hid (numsTo_yes HP.out hv)
        have HC := Lib.hid (show ∀ W, Calls Try.prog 73 #[.int .i64 d, .int .i64 c.frm, .int .i64 c.to] W fun e w' => e = .returned (.bool true) ∧ w' = W from fun W => by have e := specIn7 d c.frm c.to W; rw [show inR d c.frm c.to = true from hv] at e; exact e)
        obtain ⟨c0, c1, c2⟩ := hc
        clear hv
        generalize numsTo (serves d) ts k = zs at HO HN hzl ⊢
        go_wp2
        go_quiet ((go_at_call 73; exact Calls.quiet_of_same (HC.out _)))
        go_wp2_with fail
        clear c0 c1 c2
        refine (specInsert7_any w.heap.size g cap2 zs c.num _ HO.out.drew (by omega)).mono ?_; rintro e w2 ⟨v2, rfl, ho2, hB2⟩
        have HO2 := Lib.hid ho2; have HB2 := Lib.hid ((Go.below_drewN HB.out _).trans (hB2.mono (Go.below_drewN HB.out _).size)); clear ho2 hB2
        go_wp2_with fail
        go_roundw
        case rel => exact ⟨k + 1, by omega, by go_num, by rw [HN.out]; exact HO2.out, HB2.out⟩
        case measure => simp [intOf]; omega
    · have HK := Lib.hid (show servL ts d = numsTo (serves d) ts k by unfold servL; rw [HL.out, show len = k by omega])
      go_wp2
      go_ret
      rw [HK.out]
      exact ⟨_, rfl, HO.out, HB.out⟩

/-- numbers of our own and a code are returned; nothing that was there has turned -/
def SaysIL (zs : List Int) (c : Int) (w : World) (e : Ending) (w' : World) : Prop :=
  ∃ v, e = .returned (.tuple #[v, .int .i64 c]) ∧ (∃ a cap, v = .slice a zs.length cap) ∧ (zs = [] ∨ IntL w' w.heap.size v zs) ∧ Below w.heap.size w w'

set_option maxRecDepth 100000 in
set_option maxHeartbeats 1000000 in
theorem specServingOn_any (a : Option Addr) (len cap : Nat) (ts : List Term) (d : Int) (w : World) (hl : ts.length = len) (hm : len ≤ maxLen) (h : Term.ListAt w a ts) :
    Calls Try.prog 34 #[.slice a len cap, .int .i64 d] w (SaysIL (servR ts d).1 (servR ts d).2 w) := by
  have HC := Lib.hid (specCode7_any a len cap ts 1 d w hl hm h)
  have HE := Lib.hid (show servR ts d = if codeT ts 1 d = 0 then (servL ts d, 0) else ([], codeT ts 1 d) from rfl)
  have HI := Lib.hid h; have HL := Lib.hid hl; clear h hl
  generalize servR ts d = v at HE ⊢
  rcases codeT_cases ts 1 d with ⟨hc, hA, _, _⟩ | hc | hc
  · rw [hc] at HC HE
    have hm20 : len ≤ 20 := by rw [← HL.out]; exact areT_len hA
    have HF := Lib.hid (show v = (servL ts d, 0) by rw [HE.out]; rfl)
    clear hA hc
    go_enter Try.func34, Try.ntmps34
    go_wp2_with fail
    refine HC.out.mono ?_; rintro e w1 ⟨rfl, hB⟩
    have HB := Lib.hid hB; clear hB
    go_wp2_with fail
    refine (specServing7_any a len cap ts d w1 HL.out hm20 (HI.out.below HB.out)).mono ?_; rintro e w2 ⟨v2, rfl, ho, hB⟩
    obtain ⟨⟨g, cap2, rfl⟩, _⟩ := id ho
    have HO := Lib.hid (ho.base HB.out.size)
    have HB2 := Lib.hid (HB.out.trans (hB.mono HB.out.size)); clear hB ho
    go_wp2_with fail
    go_ret2
    rw [HF.out]
    exact ⟨_, rfl, ⟨_, _, rfl⟩, .inr HO.out, HB2.out⟩
  · rw [hc] at HC HE
    have HF := Lib.hid (show v = ([], 1) by rw [HE.out]; rfl)
    clear hc
    go_enter Try.func34, Try.ntmps34
    go_wp2_with fail
    refine HC.out.mono ?_; rintro e w1 ⟨rfl, hB⟩
    have HB := Lib.hid hB; clear hB
    go_wp2_with fail
    go_ret2
    rw [HF.out]
    exact ⟨_, rfl, ⟨_, _, rfl⟩, .inl rfl, HB.out⟩
  · rw [hc] at HC HE
    have HF := Lib.hid (show v = ([], 2) by rw [HE.out]; rfl)
    clear hc
    go_enter Try.func34, Try.ntmps34
    go_wp2_with fail
    refine HC.out.mono ?_; rintro e w1 ⟨rfl, hB⟩
    have HB := Lib.hid hB; clear hB
    go_wp2_with fail
    go_ret2
    rw [HF.out]
    exact ⟨_, rfl, ⟨_, _, rfl⟩, .inl rfl, HB.out⟩

set_option maxRecDepth 100000 in
set_option maxHeartbeats 2000000 in
theorem specOverServed_any (a : Option Addr) (len cap : Nat) (ts : List Term) (w : World) (hl : ts.length = len) (hm : len ≤ maxLen) (h : Term.ListAt w a ts) :
    Calls Try.prog 36 #[.slice a len cap] w (SaysIL (overR ts).1 (overR ts).2 w) := by
  have HC := Lib.hid (specCode7_any a len cap ts 1 0 w hl hm h)
  have HE := Lib.hid (show overR ts = if codeT ts 1 0 = 0 then (overL ts, 0) else ([], codeT ts 1 0) from rfl)
  have HI := Lib.hid h; have HL := Lib.hid hl; clear h hl
  generalize overR ts = v at HE ⊢
  rcases codeT_cases ts 1 0 with ⟨hc, hA, _, _⟩ | hc | hc
  · rw [hc] at HC HE
    have hm20 : len ≤ 20 := by rw [← HL.out]; exact areT_len hA
    have HF := Lib.hid (show v = (overL ts, 0) by rw [HE.out]; rfl)
    have HA := Lib.hid hA
    clear hA hc
    go_enter Try.func36, Try.ntmps36
    go_wp2_with fail
    refine HC.out.mono ?_; rintro e w1 ⟨rfl, hB⟩
    have HB := Lib.hid hB; have hsz := hB.size
    have HO0 := Lib.hid ((intL_empty (w := w1) (Nat.le_refl w1.heap.size)).base hsz); have HB0 := Lib.hid (hB.alloc hB.size (.cells #[] 2)); clear hB
    go_wp2_with fail
    go_loopw [5, 6] (fun v i wr => ∃ k : Nat, k ≤ len ∧ i = .int .i64 k ∧ IntL wr w.heap.size v (numsTo (overs ts) ts k) ∧ Below w.heap.size w wr) (fun _ i _ => len - (intOf i).toNat)
    case atStart => exact ⟨0, Nat.zero_le _, rfl, HO0.out, HB0.out⟩
    case round =>
      obtain ⟨k, hk, rfl, ho, hB⟩ := hrel
      obtain ⟨⟨g, cap2, rfl⟩, _⟩ := id ho
      have HO := Lib.hid ho; have HW := Lib.hid hB; clear ho hB
      by_cases hlt : k < len
      · obtain ⟨b, off, c, rfl, hc, hp⟩ := (HI.out.below HW.out).at HL.out hlt
        have HP := Lib.hid hp; clear hp
        have hzl := numsTo_len (overs ts) ts k
        have HD := Lib.hid (specDays7_any (some ⟨b, off, none⟩) len cap ts c.num wr HL.out HA.out (HI.out.below HW.out))
        obtain ⟨c0, c1, c2⟩ := hc
        by_cases hv : 60 < daysL ts c.num
        · have HN := Lib.hid (numsTo_yes HP.out (show overs ts c = true from decide_eq_true hv))
          generalize numsTo (overs ts) ts k = zs at HO HN hzl ⊢
          generalize daysL ts c.num = dd at HD hv
          have HCL := Lib.hid (show Term.At wr b (off + k * 3) c from ⟨c0, c1, c2⟩)
          go_wp2_with fail
          refine HD.out.mono ?_; rintro e w2 ⟨rfl, hB⟩
          clear c0 c1 c2
          obtain ⟨c0, c1, c2⟩ := HCL.out.below hB
          have HO2 := Lib.hid (HO.out.below hB); have HW2 := Lib.hid (HW.out.trans (hB.mono HW.out.size)); clear hB
          go_wp2_with fail
          clear c0 c1 c2
          refine (specInsert7_any w.heap.size g cap2 zs c.num _ HO2.out (by omega)).mono ?_; rintro e w3 ⟨v2, rfl, ho2, hB2⟩
          have HO3 := Lib.hid ho2; have HW3 := Lib.hid (HW2.out.trans (hB2.mono HW2.out.size)); clear ho2 hB2
          go_wp2_with fail
          go_roundw
          case rel => exact ⟨k + 1, by omega, by go_num, by rw [HN.out]; exact HO3.out, HW3.out⟩
          case measure => simp [intOf]; omega
        · have HN := Lib.hid (numsTo_no HP.out (show overs ts c = false from decide_eq_false hv))
          generalize daysL ts c.num = dd at HD hv
          go_wp2_with fail
          refine HD.out.mono ?_; rintro e w2 ⟨rfl, hB⟩
          have HO2 := Lib.hid (HO.out.below hB); have HW2 := Lib.hid (HW.out.trans (hB.mono HW.out.size)); clear hB c0 c1 c2
          go_wp2_with fail
          go_roundw
          case rel => exact ⟨k + 1, by omega, by go_num, by rw [HN.out]; exact HO2.out, HW2.out⟩
          case measure => simp [intOf]; omega
      · have HK := Lib.hid (show overL ts = numsTo (overs ts) ts k by unfold overL; rw [HL.out, show len = k by omega])
        rw [HK.out] at HF
        go_wp2_with fail
        go_ret2
        rw [HF.out]
        exact ⟨_, rfl, ⟨_, _, rfl⟩, .inr HO.out, HW.out⟩
  · rw [hc] at HC HE
    have HF := Lib.hid (show v = ([], 1) by rw [HE.out]; rfl)
    clear hc
    go_enter Try.func36, Try.ntmps36
    go_wp2_with fail
    refine HC.out.mono ?_; rintro e w1 ⟨rfl, hB⟩
    have HB := Lib.hid hB; clear hB
    go_wp2_with fail
    go_ret2
    rw [HF.out]
    exact ⟨_, rfl, ⟨_, _, rfl⟩, .inl rfl, HB.out⟩
  · rw [hc] at HC HE
    have HF := Lib.hid (show v = ([], 2) by rw [HE.out]; rfl)
    clear hc
    go_enter Try.func36, Try.ntmps36
    go_wp2_with fail
    refine HC.out.mono ?_; rintro e w1 ⟨rfl, hB⟩
    have HB := Lib.hid hB; clear hB
    go_wp2_with fail
    go_ret2
    rw [HF.out]
    exact ⟨_, rfl, ⟨_, _, rfl⟩, .inl rfl, HB.out⟩
end Go.Proofs.Ytblbmmajobefiaa
