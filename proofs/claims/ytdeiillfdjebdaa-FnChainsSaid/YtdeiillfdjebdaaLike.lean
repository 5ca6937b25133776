/- Contracts: impl.nameLikeness, spec.l04Word, spec.l01Abs, impl.likeness, spec.l04Likeness. -/
import Derived.Test.YtdeiillfdjebdaaChecked
import Derived.Test.YtdeiillfdjebdaaBase
import Derived.Test.YtdeiillfdjebdaaPure41
import Derived.Test.YtdeiillfdjebdaaStep
import Derived.Test.YtdeiillfdjebdaaPersLaw
import Derived.Test.YtdeiillfdjebdaaPersSlice
import Derived.WalkKit
import Derived.WalkSpells
import Derived.WalkLawsBesides
import Derived.Lib.Hide
import Derived.Lib.QuietBelow
import Derived.IntWalk
import Derived.Laws.StructEq
import Derived.Deep.QuietTactic
import Derived.BigQuiet
import Derived.Outline
namespace Go.Proofs.Ytdeiillfdjebdaa
open Go.RowKit Go.Sort Pure1 Pure40 Pure41

/-- a number is returned; the world has at most drawn -/
def SaysID (n : Int) (w : World) (e : Ending) (w' : World) : Prop := e = .returned (.int .i64 n) ∧ ∃ m, w' = w.drewN m
/-- a number is returned; nothing that was there has turned -/
def SaysIB (n : Int) (w : World) (e : Ending) (w' : World) : Prop := e = .returned (.int .i64 n) ∧ Below w.heap.size w w'
theorem SaysID.below {n : Int} {w w' : World} {e : Ending} (h : SaysID n w e w') : SaysIB n w e w' := by
  obtain ⟨he, m, rfl⟩ := h; exact ⟨he, Go.below_drewN (Below.refl _ _) m⟩

set_option maxRecDepth 100000 in
theorem implWordP_any (a b : ByteArray) (s n : Int) (w : World) (ha : a.size ≤ 1048576) (hb : b.size ≤ 1048576) :
    Calls Try.prog 87 #[.string a, .string b, .int .i64 s, .int .i64 n] w (SaysID (wordP a b s n) w) := by
  by_cases he : a = b
  · subst he
    have HN := Lib.hid (wordP_self a s n)
    go_enter Try.func87, Try.ntmps87
    go_wp2
    go_ret
    exact ⟨ret_i64 HN.out.symm, 0, rfl⟩
  · have hq : (a.toList == b.toList) = false := beq_eq_false_iff_ne.2 (fun e => he (toList_inj e))
    have HC := Lib.hid (implOneStep_any a b w ha hb)
    have HN := Lib.hid (show wordP a b s n = if oneStep a b = true then n else 0 by unfold wordP; rw [if_neg he])
    clear he
    obtain ⟨o, ho⟩ : ∃ o, oneStep a b = o := ⟨_, rfl⟩
    rw [ho] at HC HN
    clear ho
    cases o
    · go_enter Try.func87, Try.ntmps87
      go_wp2_with fail
      refine HC.out.mono ?_; rintro e w1 ⟨rfl, m1, rfl⟩
      go_wp2
      go_ret
      exact ⟨ret_i64 (by rw [HN.out]; simp), m1, rfl⟩
    · go_enter Try.func87, Try.ntmps87
      go_wp2_with fail
      refine HC.out.mono ?_; rintro e w1 ⟨rfl, m1, rfl⟩
      go_wp2
      go_ret
      exact ⟨ret_i64 (by rw [HN.out]; simp), m1, rfl⟩

set_option maxRecDepth 100000 in
theorem specWordP_any (a b : ByteArray) (s n : Int) (w : World) (ha : a.size ≤ 1048576) (hb : b.size ≤ 1048576) :
    Calls Try.prog 81 #[.string a, .string b, .int .i64 s, .int .i64 n] w (SaysID (wordP a b s n) w) := by
  by_cases he : a = b
  · subst he
    have HN := Lib.hid (wordP_self a s n)
    go_enter Try.func81, Try.ntmps81
    go_wp2
    go_ret
    exact ⟨ret_i64 HN.out.symm, 0, rfl⟩
  · have hq : (a.toList == b.toList) = false := beq_eq_false_iff_ne.2 (fun e => he (toList_inj e))
    have HC := Lib.hid (specStep_any a b w ha hb)
    have HN := Lib.hid (show wordP a b s n = if oneStep a b = true then n else 0 by unfold wordP; rw [if_neg he])
    clear he
    obtain ⟨o, ho⟩ : ∃ o, oneStep a b = o := ⟨_, rfl⟩
    rw [ho] at HC HN
    clear ho
    cases o
    · go_enter Try.func81, Try.ntmps81
      go_wp2_with fail
      refine HC.out.mono ?_; rintro e w1 ⟨rfl, m1, rfl⟩
      go_wp2
      go_ret
      exact ⟨ret_i64 (by rw [HN.out]; simp), m1, rfl⟩
    · go_enter Try.func81, Try.ntmps81
      go_wp2_with fail
      refine HC.out.mono ?_; rintro e w1 ⟨rfl, m1, rfl⟩
      go_wp2
      go_ret
      exact ⟨ret_i64 (by rw [HN.out]; simp), m1, rfl⟩

set_option maxRecDepth 100000 in
theorem specAbs_any (n : Int) (w : World) (h0 : -1000000000 ≤ n) (h1 : n ≤ 1000000000) :
    Calls Try.prog 82 #[.int .i64 n] w fun e w' => e = .returned (.int .i64 (if n < -n then -n else n)) ∧ w' = w := by
  have q : IntKind.i64.wrap (-n) = -n := IntWalk.i64_in _ (by omega)
  by_cases h : n < -n
  · go_enter Try.func82, Try.ntmps82
    go_wp2
    all_goals
      go_ret
      exact ⟨ret_i64 (by first | rfl | (split <;> omega) | omega), rfl⟩
  · go_enter Try.func82, Try.ntmps82
    go_wp2
    all_goals
      go_ret
      exact ⟨ret_i64 (by first | rfl | (split <;> omega) | omega), rfl⟩

theorem persEq (T : TypeId) (hT : T = 51) (n : Int) (f l : ByteArray) (b z : Int) (n' : Int) (f' l' : ByteArray) (b' z' : Int) (w : World) :
    (binOp .eql T (.agg #[.int .i64 n, .string f, .string l, .int .i64 b, .int .i64 z]) (.agg #[.int .i64 n', .string f', .string l', .int .i64 b', .int .i64 z'])).run Try.prog w =
      .ok (.bool (decide (n = n') && (decide (f = f') && (decide (l = l') && (decide (b = b') && decide (z = z')))))) w := by
  subst hT
  have hS : Try.prog.underlying 51 = some (.struct (Try.prog.fieldsOf 51)) := by kernel_rfl
  have hp : Try.prog.stoodInHeld 51 = false := by kernel_rfl
  rw [run_eql_struct, show (10000 : Nat) = 9999 + 1 from rfl, run_equalIn_agg w 9999 51 _ _ hS hp]
  simp only [Program.fieldsOf, Try.underlying51]
  go_simp
  by_cases h1 : n = n'
  · by_cases h2 : f = f'
    · by_cases h3 : l = l'
      · by_cases h4 : b = b' <;> by_cases h5 : z = z' <;> simp [h1, h2, h3, h4, h5]
      · have e3 : ¬ l.toList = l'.toList := fun e => h3 (toList_inj e)
        simp [h1, h2, h3, e3]
    · have e2 : ¬ f.toList = f'.toList := fun e => h2 (toList_inj e)
      simp [h1, h2, e2]
  · simp [h1]


set_option maxRecDepth 100000 in
set_option maxHeartbeats 4000000 in
theorem implLike_any (n : Int) (f l : ByteArray) (b z : Int) (n' : Int) (f' l' : ByteArray) (b' z' : Int) (w : World) (h : isPers ⟨n, f, l, b, z⟩ = true) (h' : isPers ⟨n', f', l', b', z'⟩ = true) :
    Calls Try.prog 62 #[.agg #[.int .i64 n, .string f, .string l, .int .i64 b, .int .i64 z], .agg #[.int .i64 n', .string f', .string l', .int .i64 b', .int .i64 z']] w (SaysIB (likeP ⟨n, f, l, b, z⟩ ⟨n', f', l', b', z'⟩) w) := by
  obtain ⟨_, hf, hl, ⟨hb0, hb1⟩, hz0, hz1⟩ : (1 ≤ n ∧ n ≤ 1000000) ∧ f.size ≤ 16 ∧ l.size ≤ 16 ∧ (1900 ≤ b ∧ b ≤ 2100) ∧ (0 ≤ z ∧ z ≤ 99) := isPers_parts h
  obtain ⟨_, hf', hl', ⟨hb0', hb1'⟩, hz0', hz1'⟩ : (1 ≤ n' ∧ n' ≤ 1000000) ∧ f'.size ≤ 16 ∧ l'.size ≤ 16 ∧ (1900 ≤ b' ∧ b' ≤ 2100) ∧ (0 ≤ z' ∧ z' ≤ 99) := isPers_parts h'
  clear h h'
  have HA := Lib.hid ((atB_box w n f l b z 51).below (boxed _ (.cells #[.int .i64 n', .string f', .string l', .int .i64 b', .int .i64 z'] 51)))
  have HA' := Lib.hid (atB_box (w.alloc (.cells #[.int .i64 n, .string f, .string l, .int .i64 b, .int .i64 z] 51)) n' f' l' b' z' 51)
  have hx : (w.alloc (.cells #[.int .i64 n, .string f, .string l, .int .i64 b, .int .i64 z] 51)).heap.size = w.heap.size + 1 := by simp
  rw [hx] at HA'
  clear hx
  have HB := Lib.hid ((boxed w (.cells #[.int .i64 n, .string f, .string l, .int .i64 b, .int .i64 z] 51)).alloc (by simp) (.cells #[.int .i64 n', .string f', .string l', .int .i64 b', .int .i64 z'] 51))
  have hwl := wordP_in l l' (s := 40) (n := 25) ⟨by omega, by omega⟩ ⟨by omega, by omega⟩
  have hwf := wordP_in f f' (s := 30) (n := 20) ⟨by omega, by omega⟩ ⟨by omega, by omega⟩
  have HL := Lib.hid (show likeP ⟨n, f, l, b, z⟩ ⟨n', f', l', b', z'⟩ = wordP l l' 40 25 + wordP f f' 30 20 + bornP b b' + (if z = z' then 10 else 0) from rfl)
  have HC1 := Lib.hid (fun W => (implWordP_any l l' 40 25 W (by omega) (by omega)).mono fun _ _ h => h.below)
  have HC2 := Lib.hid (fun W => (implWordP_any f f' 30 20 W (by omega) (by omega)).mono fun _ _ h => h.below)
  have heq := fun W => persEq 51 rfl n f l b z n' f' l' b' z' W
  have hgd : Try.prog.eqGuardType Try.prog.depth 51 = false := by kernel_rfl
  obtain ⟨sm, hsm⟩ : ∃ sm, (decide (n = n') && (decide (f = f') && (decide (l = l') && (decide (b = b') && decide (z = z'))))) = sm := ⟨_, rfl⟩
  rw [hsm] at heq
  have HS := Lib.hid (show sm = true → likeP ⟨n, f, l, b, z⟩ ⟨n', f', l', b', z'⟩ = 100 by
    intro e; rw [e] at hsm; simp only [Bool.and_eq_true, decide_eq_true_eq] at hsm; obtain ⟨rfl, rfl, rfl, rfl, rfl⟩ := hsm; exact likeP_self _)
  clear hsm
  generalize wordP l l' 40 25 = wl at hwl HL HC1
  generalize wordP f f' 30 20 = wf at hwf HL HC2
  generalize likeP ⟨n, f, l, b, z⟩ ⟨n', f', l', b', z'⟩ = R at HL HS ⊢
  cases sm
  · clear HS
    go_enter Try.func62, Try.ntmps62
    go_wp2_with fail
    clear heq hgd
    generalize (w.alloc (.cells #[.int .i64 n, .string f, .string l, .int .i64 b, .int .i64 z] 51)).alloc (.cells #[.int .i64 n', .string f', .string l', .int .i64 b', .int .i64 z'] 51) = w0 at HA HA' HB ⊢
    generalize w.heap.size + 1 = q1 at HA' ⊢
    obtain ⟨q0, hq0⟩ : ∃ q0, w.heap.size = q0 := ⟨_, rfl⟩
    have HB' := Lib.hid (show Below q0 w w0 by rw [← hq0]; exact HB.out)
    have HQ := Lib.hid hq0
    rw [hq0] at HA ⊢
    clear hq0 HB
    obtain ⟨k0, k1, k2, k3, k4⟩ := HA.out
    obtain ⟨l0, l1, l2, l3, l4⟩ := HA'.out
    have c1 := cell_regrown k1; have c2 := cell_regrown k2
    have e1 := cell_regrown l1; have e2 := cell_regrown l2
    have hcall := regr_call (w := w0) (fun W _ => HC1.out W)
    have hcall2 := regr_call (w := w0) (fun W _ => HC2.out W)
    clear k0 k1 k2 k3 k4 l0 l1 l2 l3 l4
    refine wp_region_quiet_below (by kernel_rfl) (by kernel_rfl) ?_
    iterate 5 (go_big_quiet_step (exact hcall _ _))
    iterate 7 (go_big_quiet_step (exact hcall2 _ _))
    refine wpQuiet_nil ?_
    intro _ hw'
    obtain ⟨⟨dq, osq⟩, hw''⟩ := hw'
    subst hw''
    have hB5 := below_regrown w0 dq osq
    obtain ⟨k0, k1, k2, k3, k4⟩ := HA.out.below hB5
    obtain ⟨l0, l1, l2, l3, l4⟩ := HA'.out.below hB5
    have HB5 := Lib.hid (HB'.out.trans (hB5.mono (by rw [← HQ.out]; exact HB'.out.size)))
    clear hcall hcall2 c1 c2 e1 e2 hB5
    generalize grow (redrawn w0 dq) osq = w5 at HB5 k0 k1 k2 k3 k4 l0 l1 l2 l3 l4 ⊢
    by_cases hbe : b = b'
    · have HX := Lib.hid (show bornP b b' = 20 by unfold bornP; rw [if_pos hbe])
      have hs : b - b' = 0 := by omega
      have hs2 : IntKind.i64.wrap (b - b') = 0 := by rw [hs]; rfl
      clear hbe
      by_cases hz : z = z'
      · have HN := Lib.hid (show R = wl + wf + 20 + 10 by rw [HL.out, HX.out, if_pos hz])
        have hz2 : (z == z') = true := beq_iff_eq.2 hz
        clear hz
        go_wp2
        go_ret
        exact ⟨ret_i64 (by rw [HN.out] <;> omega), by rw [HQ.out]; exact HB5.out⟩
      · have HN := Lib.hid (show R = wl + wf + 20 + 0 by rw [HL.out, HX.out, if_neg hz])
        have hz2 : (z == z') = false := beq_eq_false_iff_ne.2 hz
        clear hz
        go_wp2
        go_ret
        exact ⟨ret_i64 (by rw [HN.out] <;> omega), by rw [HQ.out]; exact HB5.out⟩
    · by_cases hb1x : b - b' = 1
      · have HX := Lib.hid (show bornP b b' = 10 by unfold bornP; rw [if_neg hbe, if_pos (.inl hb1x)])
        clear hbe
        by_cases hz : z = z'
        · have HN := Lib.hid (show R = wl + wf + 10 + 10 by rw [HL.out, HX.out, if_pos hz])
          have hz2 : (z == z') = true := beq_iff_eq.2 hz
          clear hz
          go_wp2
          go_ret
          exact ⟨ret_i64 (by rw [HN.out] <;> omega), by rw [HQ.out]; exact HB5.out⟩
        · have HN := Lib.hid (show R = wl + wf + 10 + 0 by rw [HL.out, HX.out, if_neg hz])
          have hz2 : (z == z') = false := beq_eq_false_iff_ne.2 hz
          clear hz
          go_wp2
          go_ret
          exact ⟨ret_i64 (by rw [HN.out] <;> omega), by rw [HQ.out]; exact HB5.out⟩
      · by_cases hb2x : b - b' = -1
        · have HX := Lib.hid (show bornP b b' = 10 by unfold bornP; rw [if_neg hbe, if_pos (.inr hb2x)])
          clear hbe hb1x
          by_cases hz : z = z'
          · have HN := Lib.hid (show R = wl + wf + 10 + 10 by rw [HL.out, HX.out, if_pos hz])
            have hz2 : (z == z') = true := beq_iff_eq.2 hz
            clear hz
            go_wp2
            go_ret
            exact ⟨ret_i64 (by rw [HN.out] <;> omega), by rw [HQ.out]; exact HB5.out⟩
          · have HN := Lib.hid (show R = wl + wf + 10 + 0 by rw [HL.out, HX.out, if_neg hz])
            have hz2 : (z == z') = false := beq_eq_false_iff_ne.2 hz
            clear hz
            go_wp2
            go_ret
            exact ⟨ret_i64 (by rw [HN.out] <;> omega), by rw [HQ.out]; exact HB5.out⟩
        · have HX := Lib.hid (show bornP b b' = 0 by unfold bornP; rw [if_neg hbe, if_neg (fun h => h.elim hb1x hb2x)])
          have hn0 : (b - b' == 0) = false := beq_eq_false_iff_ne.2 (by omega)
          have hn1 : (b - b' == 1) = false := beq_eq_false_iff_ne.2 hb1x
          have hn2 : (b - b' == -1) = false := beq_eq_false_iff_ne.2 hb2x
          clear hbe hb1x hb2x
          by_cases hz : z = z'
          · have HN := Lib.hid (show R = wl + wf + 0 + 10 by rw [HL.out, HX.out, if_pos hz])
            have hz2 : (z == z') = true := beq_iff_eq.2 hz
            clear hz
            go_wp2
            go_ret
            exact ⟨ret_i64 (by rw [HN.out] <;> omega), by rw [HQ.out]; exact HB5.out⟩
          · have HN := Lib.hid (show R = wl + wf + 0 + 0 by rw [HL.out, HX.out, if_neg hz])
            have hz2 : (z == z') = false := beq_eq_false_iff_ne.2 hz
            clear hz
            go_wp2
            go_ret
            exact ⟨ret_i64 (by rw [HN.out] <;> omega), by rw [HQ.out]; exact HB5.out⟩
  · have HN := Lib.hid (HS.out rfl)
    go_enter Try.func62, Try.ntmps62
    go_wp2_with fail
    go_ret
    exact ⟨ret_i64 HN.out.symm, HB.out⟩

set_option maxRecDepth 100000 in
set_option maxHeartbeats 4000000 in
theorem specLike_any (n : Int) (f l : ByteArray) (b z : Int) (n' : Int) (f' l' : ByteArray) (b' z' : Int) (w : World) (h : isPers ⟨n, f, l, b, z⟩ = true) (h' : isPers ⟨n', f', l', b', z'⟩ = true) :
    Calls Try.prog 59 #[.agg #[.int .i64 n, .string f, .string l, .int .i64 b, .int .i64 z], .agg #[.int .i64 n', .string f', .string l', .int .i64 b', .int .i64 z']] w (SaysIB (likeP ⟨n, f, l, b, z⟩ ⟨n', f', l', b', z'⟩) w) := by
  obtain ⟨_, hf, hl, ⟨hb0, hb1⟩, hz0, hz1⟩ : (1 ≤ n ∧ n ≤ 1000000) ∧ f.size ≤ 16 ∧ l.size ≤ 16 ∧ (1900 ≤ b ∧ b ≤ 2100) ∧ (0 ≤ z ∧ z ≤ 99) := isPers_parts h
  obtain ⟨_, hf', hl', ⟨hb0', hb1'⟩, hz0', hz1'⟩ : (1 ≤ n' ∧ n' ≤ 1000000) ∧ f'.size ≤ 16 ∧ l'.size ≤ 16 ∧ (1900 ≤ b' ∧ b' ≤ 2100) ∧ (0 ≤ z' ∧ z' ≤ 99) := isPers_parts h'
  clear h h'
  have HA := Lib.hid ((atB_box w n f l b z 51).below (boxed _ (.cells #[.int .i64 n', .string f', .string l', .int .i64 b', .int .i64 z'] 51)))
  have HA' := Lib.hid (atB_box (w.alloc (.cells #[.int .i64 n, .string f, .string l, .int .i64 b, .int .i64 z] 51)) n' f' l' b' z' 51)
  have hx : (w.alloc (.cells #[.int .i64 n, .string f, .string l, .int .i64 b, .int .i64 z] 51)).heap.size = w.heap.size + 1 := by simp
  rw [hx] at HA'
  clear hx
  have HB := Lib.hid ((boxed w (.cells #[.int .i64 n, .string f, .string l, .int .i64 b, .int .i64 z] 51)).alloc (by simp) (.cells #[.int .i64 n', .string f', .string l', .int .i64 b', .int .i64 z'] 51))
  have hwl := wordP_in l l' (s := 40) (n := 25) ⟨by omega, by omega⟩ ⟨by omega, by omega⟩
  have hwf := wordP_in f f' (s := 30) (n := 20) ⟨by omega, by omega⟩ ⟨by omega, by omega⟩
  have HL := Lib.hid (show likeP ⟨n, f, l, b, z⟩ ⟨n', f', l', b', z'⟩ = wordP l l' 40 25 + wordP f f' 30 20 + bornP b b' + (if z = z' then 10 else 0) from rfl)
  have HC1 := Lib.hid (fun W => (specWordP_any l l' 40 25 W (by omega) (by omega)).mono fun _ _ h => h.below)
  have HC2 := Lib.hid (fun W => (specWordP_any f f' 30 20 W (by omega) (by omega)).mono fun _ _ h => h.below)
  generalize wordP l l' 40 25 = wl at hwl HL HC1
  generalize wordP f f' 30 20 = wf at hwf HL HC2
  generalize likeP ⟨n, f, l, b, z⟩ ⟨n', f', l', b', z'⟩ = R at HL  ⊢
  go_enter Try.func59, Try.ntmps59
  go_wp2_with fail
  generalize (w.alloc (.cells #[.int .i64 n, .string f, .string l, .int .i64 b, .int .i64 z] 51)).alloc (.cells #[.int .i64 n', .string f', .string l', .int .i64 b', .int .i64 z'] 51) = w0 at HA HA' HB ⊢
  generalize w.heap.size + 1 = q1 at HA' ⊢
  obtain ⟨q0, hq0⟩ : ∃ q0, w.heap.size = q0 := ⟨_, rfl⟩
  have HB' := Lib.hid (show Below q0 w w0 by rw [← hq0]; exact HB.out)
  have HQ := Lib.hid hq0
  rw [hq0] at HA ⊢
  clear hq0 HB
  obtain ⟨k0, k1, k2, k3, k4⟩ := HA.out
  obtain ⟨l0, l1, l2, l3, l4⟩ := HA'.out
  have c1 := cell_regrown k1; have c2 := cell_regrown k2
  have e1 := cell_regrown l1; have e2 := cell_regrown l2
  have hcall := regr_call (w := w0) (fun W _ => HC1.out W)
  have hcall2 := regr_call (w := w0) (fun W _ => HC2.out W)
  clear k0 k1 k2 k3 k4 l0 l1 l2 l3 l4
  refine wp_region_quiet_below (by kernel_rfl) (by kernel_rfl) ?_
  iterate 5 (go_big_quiet_step (exact hcall _ _))
  iterate 7 (go_big_quiet_step (exact hcall2 _ _))
  refine wpQuiet_nil ?_
  intro _ hw'
  obtain ⟨⟨dq, osq⟩, hw''⟩ := hw'
  subst hw''
  have hB5 := below_regrown w0 dq osq
  obtain ⟨k0, k1, k2, k3, k4⟩ := HA.out.below hB5
  obtain ⟨l0, l1, l2, l3, l4⟩ := HA'.out.below hB5
  have HB5 := Lib.hid (HB'.out.trans (hB5.mono (by rw [← HQ.out]; exact HB'.out.size)))
  clear hcall hcall2 c1 c2 e1 e2 hB5
  generalize grow (redrawn w0 dq) osq = w5 at HB5 k0 k1 k2 k3 k4 l0 l1 l2 l3 l4 ⊢
  go_wp2_with fail
  have HAb := Lib.hid (specAbs_any (b - b') w5 (by omega) (by omega))
  by_cases hbe : b = b'
  · have HX := Lib.hid (show bornP b b' = 20 by unfold bornP; rw [if_pos hbe])
    rw [(show (if b - b' < -(b - b') then -(b - b') else b - b') = 0 by split <;> omega)] at HAb
    clear hbe
    by_cases hz : z = z'
    · have HN := Lib.hid (show R = wl + wf + 20 + 10 by rw [HL.out, HX.out, if_pos hz])
      have hz2 : (z == z') = true := beq_iff_eq.2 hz
      clear hz
      refine HAb.out.mono ?_; rintro e w6 ⟨rfl, rfl⟩
      go_wp2
      go_ret
      exact ⟨ret_i64 (by rw [HN.out] <;> omega), by rw [HQ.out]; exact HB5.out⟩
    · have HN := Lib.hid (show R = wl + wf + 20 + 0 by rw [HL.out, HX.out, if_neg hz])
      have hz2 : (z == z') = false := beq_eq_false_iff_ne.2 hz
      clear hz
      refine HAb.out.mono ?_; rintro e w6 ⟨rfl, rfl⟩
      go_wp2
      go_ret
      exact ⟨ret_i64 (by rw [HN.out] <;> omega), by rw [HQ.out]; exact HB5.out⟩
  · by_cases hb1x : b - b' = 1 ∨ b - b' = -1
    · have HX := Lib.hid (show bornP b b' = 10 by unfold bornP; rw [if_neg hbe, if_pos hb1x])
      rw [(show (if b - b' < -(b - b') then -(b - b') else b - b') = 1 by split <;> omega)] at HAb
      clear hbe
      by_cases hz : z = z'
      · have HN := Lib.hid (show R = wl + wf + 10 + 10 by rw [HL.out, HX.out, if_pos hz])
        have hz2 : (z == z') = true := beq_iff_eq.2 hz
        clear hz
        refine HAb.out.mono ?_; rintro e w6 ⟨rfl, rfl⟩
        go_wp2
        go_ret
        exact ⟨ret_i64 (by rw [HN.out] <;> omega), by rw [HQ.out]; exact HB5.out⟩
      · have HN := Lib.hid (show R = wl + wf + 10 + 0 by rw [HL.out, HX.out, if_neg hz])
        have hz2 : (z == z') = false := beq_eq_false_iff_ne.2 hz
        clear hz
        refine HAb.out.mono ?_; rintro e w6 ⟨rfl, rfl⟩
        go_wp2
        go_ret
        exact ⟨ret_i64 (by rw [HN.out] <;> omega), by rw [HQ.out]; exact HB5.out⟩
    · have HX := Lib.hid (show bornP b b' = 0 by unfold bornP; rw [if_neg hbe, if_neg hb1x])
      obtain ⟨u, hu⟩ : ∃ u, (if b - b' < -(b - b') then -(b - b') else b - b') = u := ⟨_, rfl⟩
      have hu0 : (u == 0) = false := beq_eq_false_iff_ne.2 (by rw [← hu]; split <;> omega)
      have hu1 : (u == 1) = false := beq_eq_false_iff_ne.2 (by rw [← hu]; split <;> omega)
      rw [hu] at HAb
      clear hbe hb1x hu
      by_cases hz : z = z'
      · have HN := Lib.hid (show R = wl + wf + 0 + 10 by rw [HL.out, HX.out, if_pos hz])
        have hz2 : (z == z') = true := beq_iff_eq.2 hz
        clear hz
        refine HAb.out.mono ?_; rintro e w6 ⟨rfl, rfl⟩
        go_wp2
        go_ret
        exact ⟨ret_i64 (by rw [HN.out] <;> omega), by rw [HQ.out]; exact HB5.out⟩
      · have HN := Lib.hid (show R = wl + wf + 0 + 0 by rw [HL.out, HX.out, if_neg hz])
        have hz2 : (z == z') = false := beq_eq_false_iff_ne.2 hz
        clear hz
        refine HAb.out.mono ?_; rintro e w6 ⟨rfl, rfl⟩
        go_wp2
        go_ret
        exact ⟨ret_i64 (by rw [HN.out] <;> omega), by rw [HQ.out]; exact HB5.out⟩

end Go.Proofs.Ytdeiillfdjebdaa
