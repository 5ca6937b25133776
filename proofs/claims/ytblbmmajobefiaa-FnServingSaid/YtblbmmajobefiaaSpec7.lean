/- Contracts of chapter 7's model: one term, terms, the code, days served, rested. -/
import Derived.Test.YtblbmmajobefiaaChecked
import Derived.Test.YtblbmmajobefiaaBase
import Derived.Test.YtblbmmajobefiaaInfo
import Derived.Test.YtblbmmajobefiaaTermA
import Derived.Test.YtblbmmajobefiaaPure70
import Derived.WalkKit
import Derived.WalkSpells
import Derived.WalkLawsBesides
import Derived.Lib.Hide
import Derived.Lib.QuietBelow
import Derived.IntWalk
import Derived.Deep.QuietTactic
import Derived.BigQuiet
import Derived.Outline
namespace Go.Proofs.Ytblbmmajobefiaa
open Go.RowKit Pure1 Pure2 Pure20 Pure40

theorem specIn7 (n a b : Int) (w : World) :
    Calls Try.prog 73 #[.int .i64 n, .int .i64 a, .int .i64 b] w fun e w' => e = .returned (.bool (inR n a b)) ∧ w' = w := by
  by_cases h1 : a ≤ n
  · go_enter Try.func73, Try.ntmps73
    go_wp2
    go_ret
    exact ⟨ret_bool' (by simp [inR, h1]), rfl⟩
  · have h3 : decide (a ≤ n) = false := decide_eq_false h1
    have h1' : n < a := by omega
    go_enter Try.func73, Try.ntmps73
    go_wp2
    go_ret
    exact ⟨ret_bool' (by simp only [inR, h3, Bool.false_and]), rfl⟩
theorem specIs7 (n : Int) (w : World) :
    Calls Try.prog 74 #[.int .i64 n] w fun e w' => e = .returned (.bool (isDay n)) ∧ w' = w := by
  have HC := Lib.hid (specIn7 n 0 20000 w)
  go_enter Try.func74, Try.ntmps74
  go_wp2_with fail
  refine HC.out.mono ?_; rintro e w1 ⟨rfl, rfl⟩
  go_wp2_with fail
  go_ret
  exact ⟨rfl, rfl⟩
theorem okT_eq (c : Term) : okT c = (inR c.num 1 1000000 && (isDay c.frm && inR c.to c.frm 20000)) := rfl

set_option maxHeartbeats 1000000 in
theorem specIsTerm_any (c : Term) (w : World) :
    Calls Try.prog 63 #[.agg #[.int .i64 c.num, .int .i64 c.frm, .int .i64 c.to]] w fun e w' => e = .returned (.bool (okT c)) ∧ Below w.heap.size w w' := by
  have HA := Lib.hid (Term.boxed w c 32)
  have HW := Lib.hid (show Below w.heap.size w (w.alloc (.cells #[.int .i64 c.num, .int .i64 c.frm, .int .i64 c.to] 32)) from (Below.refl _ _).alloc (Nat.le_refl _) _)
  have H1 := Lib.hid (fun W => specIn7 c.num 1 1000000 W)
  have H2 := Lib.hid (fun W => specIs7 c.frm W)
  have H3 := Lib.hid (fun W => specIn7 c.to c.frm 20000 W)
  have HE := Lib.hid (okT_eq c)
  generalize okT c = v at HE ⊢
  generalize inR c.num 1 1000000 = b1 at H1 HE
  generalize isDay c.frm = b2 at H2 HE
  generalize inR c.to c.frm 20000 = b3 at H3 HE
  go_enter Try.func63, Try.ntmps63
  obtain ⟨a0, a1, a2⟩ := HA.out
  go_wp2_with fail
  refine (H1.out _).mono ?_; rintro e w1 ⟨rfl, rfl⟩
  cases b1
  · go_wp2_with fail
    go_ret
    exact ⟨ret_bool' (by rw [HE.out]; rfl), HW.out⟩
  · go_wp2_with fail
    refine (H2.out _).mono ?_; rintro e w1 ⟨rfl, rfl⟩
    cases b2
    · go_wp2_with fail
      go_ret
      exact ⟨ret_bool' (by rw [HE.out]; rfl), HW.out⟩
    · go_wp2_with fail
      refine (H3.out _).mono ?_; rintro e w1 ⟨rfl, rfl⟩
      go_wp2_with fail
      go_ret
      exact ⟨ret_bool' (by rw [HE.out]; rfl), HW.out⟩

set_option maxRecDepth 100000 in
set_option maxHeartbeats 2000000 in
theorem specAreTerms_any (a : Option Addr) (len cap : Nat) (ts : List Term) (w : World) (hl : ts.length = len) (hm : len ≤ maxLen) (h : Term.ListAt w a ts) :
    Calls Try.prog 28 #[.slice a len cap] w fun e w' => e = .returned (.bool (areT ts)) ∧ Below w.heap.size w w' := by
  unfold maxLen at hm
  have HL := Lib.hid hl; have HI := Lib.hid h; clear hl h
  go_enter Try.func28, Try.ntmps28
  go_wp2
  go_loopw [3] (fun i wr => ∃ n : Nat, n ≤ len ∧ i = .int .i64 n ∧ AreTo ts n ∧ Below w.heap.size w wr) (fun i _ => len - (intOf i).toNat)
  case atStart => exact ⟨0, Nat.zero_le _, rfl, areTo_zero ts, Below.refl _ _⟩
  case round =>
    obtain ⟨n, hn, rfl, hA, hB⟩ := hrel
    have HA := Lib.hid hA; have HB := Lib.hid hB; clear hA hB
    by_cases hlt : n < len
    · obtain ⟨b, off, c, rfl, hc, hp⟩ := (HI.out.below HB.out).at HL.out hlt
      have HP := Lib.hid hp; clear hp
      have HX := Lib.hid (Term.boxed wr c 32)
      have HB1 := Lib.hid (HB.out.alloc HB.out.size (.cells #[.int .i64 c.num, .int .i64 c.frm, .int .i64 c.to] 32))
      have HT := Lib.hid (specIsTerm_any c (wr.alloc (.cells #[.int .i64 c.num, .int .i64 c.frm, .int .i64 c.to] 32)))
      obtain ⟨c0, c1, c2⟩ := hc
      obtain ⟨x0, x1, x2⟩ := HX.out
      cases hv : okT c
      · rw [hv] at HT
        have HN := Lib.hid (areT_bad HP.out hv)
        go_wp2_with fail
        refine HT.out.mono ?_; rintro e w1 ⟨rfl, hB⟩
        have HB2 := Lib.hid (HB1.out.trans (hB.mono HB1.out.size)); clear hB
        go_wp2_with fail
        go_ret
        exact ⟨ret_bool' HN.out.symm, HB2.out⟩
      · rw [hv] at HT
        have HV := Lib.hid hv; clear hv
        go_wp2_with fail
        refine HT.out.mono ?_; rintro e w1 ⟨rfl, hB⟩
        have HX1 := Lib.hid (HX.out.below hB)
        have HB2 := Lib.hid (HB1.out.trans (hB.mono HB1.out.size)); clear hB c0 c1 c2 x0 x1 x2
        obtain ⟨xb, hxb⟩ : ∃ xb, wr.heap.size = xb := ⟨_, rfl⟩
        rw [hxb] at HX1 ⊢
        clear hxb HX HT HB1
        go_wp2_with fail
        go_loopw [5] (fun i w3 => ∃ k m : Nat, k ≤ n ∧ i = .int .i64 k ∧ (∀ (i : Nat) q, i < k → ts[i]? = some q → clash c q = false) ∧ w3 = w1.drewN m) (fun i _ => n - (intOf i).toNat)
        case atStart => exact ⟨0, 0, Nat.zero_le _, rfl, fun i q hi => by omega, rfl⟩
        case round =>
          obtain ⟨k, m, hk, rfl, hno, rfl⟩ := hrel
          have HN := Lib.hid hno; clear hno
          by_cases hlk : k < n
          · obtain ⟨b', off', q, e, hq, hpq⟩ := (HI.out.below HB2.out).at HL.out (show k < len by omega)
            cases e
            obtain ⟨q0, q1, q2⟩ := hq
            obtain ⟨x0, x1, x2⟩ := HX1.out
            have HQ := Lib.hid hpq; clear hpq
            have HE := Lib.hid (show clash c q = (decide (q.num = c.num) && (decide (q.frm ≤ c.to) && decide (c.frm ≤ q.to))) from rfl)
            by_cases e1 : q.num = c.num
            · by_cases e2 : q.frm ≤ c.to
              · by_cases e3 : c.frm ≤ q.to
                · have HF := Lib.hid (areT_clash HP.out hlk HQ.out (by rw [HE.out, decide_eq_true e1, decide_eq_true e2, decide_eq_true e3]; rfl))
                  go_wp2
                  go_quiet (fail)
                  go_wp2
                  go_ret
                  exact ⟨ret_bool' HF.out.symm, Go.below_drewN (Go.below_drewN HB2.out _) _⟩
                · have HF := Lib.hid (show clash c q = false by rw [HE.out, decide_eq_false e3, Bool.and_false, Bool.and_false])
                  have e3b : decide (c.frm ≤ q.to) = false := decide_eq_false e3
                  go_wp2
                  go_quiet (fail)
                  go_wp2
                  go_roundw
                  case rel => exact ⟨k + 1, _, by omega, by go_num, (fun i x hi hx => by
                    by_cases e : i = k
                    · subst e; rw [HQ.out] at hx; cases hx; exact HF.out
                    · exact HN.out i x (by omega) hx), rfl⟩
                  case measure => simp [intOf]; omega
              · have HF := Lib.hid (show clash c q = false by rw [HE.out, decide_eq_false e2, Bool.false_and, Bool.and_false])
                have e2b : decide (q.frm ≤ c.to) = false := decide_eq_false e2
                go_wp2
                go_quiet (fail)
                go_wp2
                go_roundw
                case rel => exact ⟨k + 1, _, by omega, by go_num, (fun i x hi hx => by
                  by_cases e : i = k
                  · subst e; rw [HQ.out] at hx; cases hx; exact HF.out
                  · exact HN.out i x (by omega) hx), rfl⟩
                case measure => simp [intOf]; omega
            · have HF := Lib.hid (show clash c q = false by rw [HE.out, decide_eq_false e1, Bool.false_and])
              have e1b : (q.num == c.num) = false := beq_eq_false_iff_ne.2 e1
              go_wp2
              go_quiet (fail)
              go_wp2
              go_roundw
              case rel => exact ⟨k + 1, _, by omega, by go_num, (fun i x hi hx => by
                by_cases e : i = k
                · subst e; rw [HQ.out] at hx; cases hx; exact HF.out
                · exact HN.out i x (by omega) hx), rfl⟩
              case measure => simp [intOf]; omega
          · go_wp2
            go_roundw
            case rel => exact ⟨n + 1, by omega, by go_num, areTo_step HA.out HP.out HV.out (fun i q hi hq => HN.out i q (by omega) hq), Go.below_drewN HB2.out _⟩
            case measure => simp [intOf]; omega
    · have HE := Lib.hid (areT_end HA.out (show ts.length ≤ n by rw [HL.out]; omega))
      rw [HL.out] at HE
      go_wp2
      go_ret
      exact ⟨ret_bool' (by rw [HE.out]; exact decide_eq_decide.2 (by omega)), HB.out⟩
end Go.Proofs.Ytblbmmajobefiaa
