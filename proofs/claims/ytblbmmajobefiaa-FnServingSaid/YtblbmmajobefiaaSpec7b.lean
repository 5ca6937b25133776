/- Contracts of chapter 7's model: the code, days served, rested. -/
import Derived.Test.YtblbmmajobefiaaChecked
import Derived.Test.YtblbmmajobefiaaBase
import Derived.Test.YtblbmmajobefiaaInfo
import Derived.Test.YtblbmmajobefiaaTermA
import Derived.Test.YtblbmmajobefiaaPure70
import Derived.Test.YtblbmmajobefiaaSpec7
import Derived.WalkKit
import Derived.WalkSpells
import Derived.WalkLawsBesides
import Derived.Lib.Hide
import Derived.IntWalk
import Derived.Deep.QuietTactic
import Derived.BigQuiet
import Derived.Outline
namespace Go.Proofs.Ytblbmmajobefiaa
open Go.RowKit Pure1 Pure2 Pure20 Pure40

set_option maxHeartbeats 1000000 in
theorem specCode7_any (a : Option Addr) (len cap : Nat) (ts : List Term) (n d : Int) (w : World) (hl : ts.length = len) (hm : len ≤ maxLen) (h : Term.ListAt w a ts) :
    Calls Try.prog 53 #[.slice a len cap, .int .i64 n, .int .i64 d] w fun e w' => e = .returned (.int .i64 (codeT ts n d)) ∧ Below w.heap.size w w' := by
  have HT := Lib.hid (specAreTerms_any a len cap ts w hl hm h)
  have H1 := Lib.hid (fun W => specIn7 n 1 1000000 W)
  have H2 := Lib.hid (fun W => specIs7 d W)
  have HE := Lib.hid (show codeT ts n d = if areT ts = true then (if inR n 1 1000000 = true ∧ isDay d = true then 0 else 2) else 1 from rfl)
  generalize codeT ts n d = v at HE ⊢
  generalize areT ts = b1 at HT HE
  generalize inR n 1 1000000 = b2 at H1 HE
  generalize isDay d = b3 at H2 HE
  cases b1
  · go_enter Try.func53, Try.ntmps53
    go_wp2_with fail
    refine HT.out.mono ?_; rintro e w1 ⟨rfl, hB⟩
    have HB := Lib.hid hB; clear hB
    go_wp2_with fail
    go_ret
    exact ⟨ret_i64 (by rw [HE.out]; rfl), HB.out⟩
  · go_enter Try.func53, Try.ntmps53
    go_wp2_with fail
    refine HT.out.mono ?_; rintro e w1 ⟨rfl, hB⟩
    have HB := Lib.hid hB; clear hB
    go_wp2_with fail
    refine (H1.out _).mono ?_; rintro e w2 ⟨rfl, rfl⟩
    cases b2
    · go_wp2_with fail
      go_ret
      exact ⟨ret_i64 (by rw [HE.out]; rfl), HB.out⟩
    · go_wp2_with fail
      refine (H2.out _).mono ?_; rintro e w2 ⟨rfl, rfl⟩
      cases b3
      · go_wp2_with fail
        go_ret
        exact ⟨ret_i64 (by rw [HE.out]; rfl), HB.out⟩
      · go_wp2_with fail
        go_ret
        exact ⟨ret_i64 (by rw [HE.out]; rfl), HB.out⟩

set_option maxRecDepth 100000 in
set_option maxHeartbeats 1000000 in
theorem specDays7_any (a : Option Addr) (len cap : Nat) (ts : List Term) (n : Int) (w : World) (hl : ts.length = len) (hA : areT ts = true) (h : Term.ListAt w a ts) :
    Calls Try.prog 60 #[.slice a len cap, .int .i64 n] w fun e w' => e = .returned (.int .i64 (daysL ts n)) ∧ Below w.heap.size w w' := by
  have hm : len ≤ 20 := by rw [← hl]; exact areT_len hA
  have HL := Lib.hid hl; have HI := Lib.hid h; have HA := Lib.hid hA; clear hl h hA
  go_enter Try.func60, Try.ntmps60
  go_wp2
  go_loopw [5, 6] (fun v i wr => ∃ k m : Nat, k ≤ len ∧ i = .int .i64 k ∧ v = .int .i64 (daysTo ts n k) ∧ wr = w.drewN m) (fun _ i _ => len - (intOf i).toNat)
  case atStart => exact ⟨0, 0, Nat.zero_le _, rfl, rfl, rfl⟩
  case round =>
    obtain ⟨k, m, hk, rfl, rfl, rfl⟩ := hrel
    by_cases hlt : k < len
    · obtain ⟨b, off, c, rfl, hc, hp⟩ := HI.out.at HL.out hlt
      have hbd := daysTo_bd HA.out n k (by rw [HL.out]; omega)
      have hct := areT_at HA.out hp
      obtain ⟨c0, c1, c2⟩ := hc
      have HS := Lib.hid (daysTo_step hp n)
      clear hp
      by_cases e : c.num = n
      · have HD := Lib.hid (show days1 n c = c.to - c.frm + 1 from if_pos e)
        have s1 : IntKind.i64.wrap (daysTo ts n k + c.to) = daysTo ts n k + c.to := IntWalk.i64_in _ (by omega)
        have s2 : IntKind.i64.wrap (daysTo ts n k + c.to - c.frm) = daysTo ts n k + c.to - c.frm := IntWalk.i64_in _ (by omega)
        have s3 : IntKind.i64.wrap (daysTo ts n k + c.to - c.frm + 1) = daysTo ts n k + c.to - c.frm + 1 := IntWalk.i64_in _ (by omega)
        have eb : (c.num == n) = true := beq_iff_eq.2 e
        clear hbd hct
        go_wp2
        go_quiet (fail)
        go_wp2
        clear s1 s2 s3
        go_roundw
        case rel => exact ⟨k + 1, _, by omega, by go_num, by rw [HS.out, HD.out]; congr 1; omega, rfl⟩
        case measure => simp [intOf]; omega
      · have HD := Lib.hid (show days1 n c = 0 from if_neg e)
        have eb : (c.num == n) = false := beq_eq_false_iff_ne.2 e
        clear hbd hct
        go_wp2
        go_roundw
        case rel => exact ⟨k + 1, _, by omega, by go_num, by rw [HS.out, HD.out]; congr 1; omega, rfl⟩
        case measure => simp [intOf]; omega
    · have HK := Lib.hid (show k = ts.length by rw [HL.out]; omega)
      go_wp2
      go_ret
      exact ⟨ret_i64 (by rw [HK.out]; rfl), Go.below_drewN (Below.refl _ _) _⟩

set_option maxRecDepth 100000 in
set_option maxHeartbeats 1000000 in
theorem specRested7_any (a : Option Addr) (len cap : Nat) (ts : List Term) (n d : Int) (w : World) (hl : ts.length = len) (hA : areT ts = true) (h : Term.ListAt w a ts) :
    Calls Try.prog 54 #[.slice a len cap, .int .i64 n, .int .i64 d] w fun e w' => e = .returned (.bool (restedL ts n d)) ∧ Below w.heap.size w w' := by
  have hm : len ≤ 20 := by rw [← hl]; exact areT_len hA
  have HL := Lib.hid hl; have HI := Lib.hid h; have HA := Lib.hid hA; clear hl h hA
  go_enter Try.func54, Try.ntmps54
  go_wp2
  go_loopw [7] (fun i wr => ∃ k m : Nat, k ≤ len ∧ i = .int .i64 k ∧ (∀ (i : Nat) x, i < k → ts[i]? = some x → keeps n d x = false) ∧ wr = w.drewN m) (fun i _ => len - (intOf i).toNat)
  case atStart => exact ⟨0, 0, Nat.zero_le _, rfl, (fun i x hi => by omega), rfl⟩
  case round =>
    obtain ⟨k, m, hk, rfl, hno, rfl⟩ := hrel
    have HN := Lib.hid hno; clear hno
    by_cases hlt : k < len
    · obtain ⟨b, off, c, rfl, hc, hp⟩ := HI.out.at HL.out hlt
      have hct := areT_at HA.out hp
      obtain ⟨c0, c1, c2⟩ := hc
      have HP := Lib.hid hp; clear hp
      have HE := Lib.hid (show keeps n d c = (decide (c.num = n) && (decide (c.frm < d) && decide (d < c.to + 730))) from rfl)
      have ht0 := hct.2.2.2; have ht1 := hct.2.2.1; have ht2 := hct.2.1.1
      clear hct
      by_cases e1 : c.num = n
      · have eb : (c.num == n) = true := beq_iff_eq.2 e1
        by_cases e2 : c.frm < d
        · by_cases e3 : d < c.to + 730
          · have HF := Lib.hid (restedL_no HP.out (show keeps n d c = true by rw [HE.out, decide_eq_true e1, decide_eq_true e2, decide_eq_true e3]; rfl))
            go_wp2
            go_ret
            exact ⟨ret_bool' HF.out.symm, Go.below_drewN (Below.refl _ _) _⟩
          · have HF := Lib.hid (show keeps n d c = false by rw [HE.out, decide_eq_false e3, Bool.and_false, Bool.and_false])
            go_wp2
            go_roundw
            case rel => exact ⟨k + 1, _, by omega, by go_num, keeps_next HN.out HP.out HF.out, rfl⟩
            case measure => simp [intOf]; omega
        · have HF := Lib.hid (show keeps n d c = false by rw [HE.out, decide_eq_false e2, Bool.false_and, Bool.and_false])
          go_wp2
          go_roundw
          case rel => exact ⟨k + 1, _, by omega, by go_num, keeps_next HN.out HP.out HF.out, rfl⟩
          case measure => simp [intOf]; omega
      · have eb : (c.num == n) = false := beq_eq_false_iff_ne.2 e1
        have HF := Lib.hid (show keeps n d c = false by rw [HE.out, decide_eq_false e1, Bool.false_and])
        go_wp2
        go_roundw
        case rel => exact ⟨k + 1, _, by omega, by go_num, keeps_next HN.out HP.out HF.out, rfl⟩
        case measure => simp [intOf]; omega
    · have HE := Lib.hid (restedL_end HN.out (show ts.length ≤ k by rw [HL.out]; omega))
      go_wp2
      go_ret
      exact ⟨ret_bool' HE.out.symm, Go.below_drewN (Below.refl _ _) _⟩

/-- a number and a code are returned -/
def SaysN (x c : Int) (w : World) (e : Ending) (w' : World) : Prop := e = .returned (.tuple #[.int .i64 x, .int .i64 c]) ∧ Below w.heap.size w w'
theorem ret_nn {x y c d : Int} (h : x = y) (h' : c = d) : Ending.returned (.tuple #[.int .i64 x, .int .i64 c]) = .returned (.tuple #[.int .i64 y, .int .i64 d]) := by rw [h, h']

set_option maxRecDepth 100000 in
set_option maxHeartbeats 1000000 in
theorem specDaysServed_any (a : Option Addr) (len cap : Nat) (ts : List Term) (n : Int) (w : World) (hl : ts.length = len) (hm : len ≤ maxLen) (h : Term.ListAt w a ts) :
    Calls Try.prog 25 #[.slice a len cap, .int .i64 n] w (SaysN (daysR ts n).1 (daysR ts n).2 w) := by
  have HC := Lib.hid (specCode7_any a len cap ts n 0 w hl hm h)
  have HE := Lib.hid (show daysR ts n = if codeT ts n 0 = 0 then (daysL ts n, 0) else (0, codeT ts n 0) from rfl)
  have HI := Lib.hid h; have HL := Lib.hid hl; clear h hl
  generalize daysR ts n = v at HE ⊢
  rcases codeT_cases ts n 0 with ⟨hc, hA, _, _⟩ | hc | hc
  · rw [hc] at HC HE
    have HA := Lib.hid hA; clear hA hc
    go_enter Try.func25, Try.ntmps25
    go_wp2_with fail
    refine HC.out.mono ?_; rintro e w1 ⟨rfl, hB⟩
    have HB := Lib.hid hB; clear hB
    go_wp2_with fail
    refine (specDays7_any a len cap ts n w1 HL.out HA.out (HI.out.below HB.out)).mono ?_; rintro e w2 ⟨rfl, hB⟩
    have HB2 := Lib.hid (HB.out.trans (hB.mono HB.out.size)); clear hB
    go_wp2_with fail
    go_ret2
    exact ⟨ret_nn (by rw [HE.out]; rfl) (by rw [HE.out]; rfl), HB2.out⟩
  · rw [hc] at HC HE
    clear hc
    go_enter Try.func25, Try.ntmps25
    go_wp2_with fail
    refine HC.out.mono ?_; rintro e w1 ⟨rfl, hB⟩
    have HB := Lib.hid hB; clear hB
    go_wp2_with fail
    go_ret2
    exact ⟨ret_nn (by rw [HE.out]; rfl) (by rw [HE.out]; rfl), HB.out⟩
  · rw [hc] at HC HE
    clear hc
    go_enter Try.func25, Try.ntmps25
    go_wp2_with fail
    refine HC.out.mono ?_; rintro e w1 ⟨rfl, hB⟩
    have HB := Lib.hid hB; clear hB
    go_wp2_with fail
    go_ret2
    exact ⟨ret_nn (by rw [HE.out]; rfl) (by rw [HE.out]; rfl), HB.out⟩

/-- a Boolean and a code are returned -/
def SaysBN (x : Bool) (c : Int) (w : World) (e : Ending) (w' : World) : Prop := e = .returned (.tuple #[.bool x, .int .i64 c]) ∧ Below w.heap.size w w'
theorem ret_bn {x y : Bool} {c d : Int} (h : x = y) (h' : c = d) : Ending.returned (.tuple #[.bool x, .int .i64 c]) = .returned (.tuple #[.bool y, .int .i64 d]) := by rw [h, h']

set_option maxRecDepth 100000 in
set_option maxHeartbeats 1000000 in
theorem specIsRested_any (a : Option Addr) (len cap : Nat) (ts : List Term) (n d : Int) (w : World) (hl : ts.length = len) (hm : len ≤ maxLen) (h : Term.ListAt w a ts) :
    Calls Try.prog 19 #[.slice a len cap, .int .i64 n, .int .i64 d] w (SaysBN (restedR ts n d).1 (restedR ts n d).2 w) := by
  have HC := Lib.hid (specCode7_any a len cap ts n d w hl hm h)
  have HE := Lib.hid (show restedR ts n d = if codeT ts n d = 0 then (restedL ts n d, 0) else (false, codeT ts n d) from rfl)
  have HI := Lib.hid h; have HL := Lib.hid hl; clear h hl
  generalize restedR ts n d = v at HE ⊢
  rcases codeT_cases ts n d with ⟨hc, hA, _, _⟩ | hc | hc
  · rw [hc] at HC HE
    have HA := Lib.hid hA; clear hA hc
    go_enter Try.func19, Try.ntmps19
    go_wp2_with fail
    refine HC.out.mono ?_; rintro e w1 ⟨rfl, hB⟩
    have HB := Lib.hid hB; clear hB
    go_wp2_with fail
    refine (specRested7_any a len cap ts n d w1 HL.out HA.out (HI.out.below HB.out)).mono ?_; rintro e w2 ⟨rfl, hB⟩
    have HB2 := Lib.hid (HB.out.trans (hB.mono HB.out.size)); clear hB
    go_wp2_with fail
    go_ret2
    exact ⟨ret_bn (by rw [HE.out]; rfl) (by rw [HE.out]; rfl), HB2.out⟩
  · rw [hc] at HC HE
    clear hc
    go_enter Try.func19, Try.ntmps19
    go_wp2_with fail
    refine HC.out.mono ?_; rintro e w1 ⟨rfl, hB⟩
    have HB := Lib.hid hB; clear hB
    go_wp2_with fail
    go_ret2
    exact ⟨ret_bn (by rw [HE.out]; rfl) (by rw [HE.out]; rfl), HB.out⟩
  · rw [hc] at HC HE
    clear hc
    go_enter Try.func19, Try.ntmps19
    go_wp2_with fail
    refine HC.out.mono ?_; rintro e w1 ⟨rfl, hB⟩
    have HB := Lib.hid hB; clear hB
    go_wp2_with fail
    go_ret2
    exact ⟨ret_bn (by rw [HE.out]; rfl) (by rw [HE.out]; rfl), HB.out⟩

set_option maxRecDepth 100000 in
set_option maxHeartbeats 1000000 in
theorem specRestedFrom_any (a : Option Addr) (len cap : Nat) (ts : List Term) (n d : Int) (w : World) (hl : ts.length = len) (hm : len ≤ maxLen) (h : Term.ListAt w a ts) :
    Calls Try.prog 16 #[.slice a len cap, .int .i64 n, .int .i64 d] w (SaysN (restFromR ts n d).1 (restFromR ts n d).2 w) := by
  have HC := Lib.hid (specCode7_any a len cap ts n d w hl hm h)
  have HE := Lib.hid (show restFromR ts n d = if codeT ts n d = 0 then fromL ts n d else (0, codeT ts n d) from rfl)
  have HI := Lib.hid h; have HL := Lib.hid hl; clear h hl
  generalize restFromR ts n d = v at HE ⊢
  rcases codeT_cases ts n d with ⟨hc, hA, _, hd0, hd1⟩ | hc | hc
  · rw [hc] at HC HE
    have HA := Lib.hid hA; clear hA hc
    have HE2 := Lib.hid (show v = fromL ts n d by rw [HE.out]; rfl)
    go_enter Try.func16, Try.ntmps16
    go_wp2_with fail
    refine HC.out.mono ?_; rintro e w1 ⟨rfl, hB⟩
    have HB := Lib.hid hB; clear hB HC HE
    go_wp2_with fail
    go_loopw [2] (fun i wr => ∃ f : Int, i = .int .i64 f ∧ d ≤ f ∧ f ≤ 20001 ∧ (∀ x, d ≤ x → x < f → restedL ts n x = false) ∧ Below w.heap.size w wr) (fun i _ => (20001 - intOf i).toNat)
    case atStart => exact ⟨d, rfl, Int.le_refl _, by omega, (fun x h0 h1 => by omega), HB.out⟩
    case round =>
      obtain ⟨f, rfl, hf0, hf1, hno, hB⟩ := hrel
      have HN := Lib.hid hno; have HW := Lib.hid hB; clear hno hB
      by_cases hlt : f ≤ 20000
      · have HR := Lib.hid (specRested7_any a len cap ts n f wr HL.out HA.out (HI.out.below HW.out))
        cases hr : restedL ts n f
        · rw [hr] at HR
          have HN2 := Lib.hid (noRest_next HN.out hr); clear hr
          go_wp2_with fail
          refine HR.out.mono ?_; rintro e w2 ⟨rfl, hB⟩
          have HW2 := Lib.hid (HW.out.trans (hB.mono HW.out.size)); clear hB HR
          go_wp2_with fail
          go_roundw
          case rel => exact ⟨f + 1, by go_num, by omega, by omega, HN2.out, HW2.out⟩
          case measure => simp [intOf]; omega
        · rw [hr] at HR
          have HF := Lib.hid (HE2.out.trans (fromL_found hf0 hlt HN.out hr)); clear hr
          go_wp2_with fail
          refine HR.out.mono ?_; rintro e w2 ⟨rfl, hB⟩
          have HW2 := Lib.hid (HW.out.trans (hB.mono HW.out.size)); clear hB HR
          go_wp2_with fail
          go_ret2
          exact ⟨ret_nn (by rw [HF.out]) (by rw [HF.out]), HW2.out⟩
      · have HF := Lib.hid (HE2.out.trans (fromL_end (show 20000 < f by omega) HN.out))
        go_wp2_with fail
        go_ret2
        exact ⟨ret_nn (by rw [HF.out]) (by rw [HF.out]), HW.out⟩
  · rw [hc] at HC HE
    clear hc
    go_enter Try.func16, Try.ntmps16
    go_wp2_with fail
    refine HC.out.mono ?_; rintro e w1 ⟨rfl, hB⟩
    have HB := Lib.hid hB; clear hB
    go_wp2_with fail
    go_ret2
    exact ⟨ret_nn (by rw [HE.out]; rfl) (by rw [HE.out]; rfl), HB.out⟩
  · rw [hc] at HC HE
    clear hc
    go_enter Try.func16, Try.ntmps16
    go_wp2_with fail
    refine HC.out.mono ?_; rintro e w1 ⟨rfl, hB⟩
    have HB := Lib.hid hB; clear hB
    go_wp2_with fail
    go_ret2
    exact ⟨ret_nn (by rw [HE.out]; rfl) (by rw [HE.out]; rfl), HB.out⟩
end Go.Proofs.Ytblbmmajobefiaa
