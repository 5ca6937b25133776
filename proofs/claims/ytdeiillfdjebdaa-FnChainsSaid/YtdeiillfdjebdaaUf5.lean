/- Contracts: the groups that are joined by pointers: keeper, joinWith, groupsWithin, keeperOf, keepers, groupOf. -/
import Derived.Test.YtdeiillfdjebdaaChecked
import Derived.Test.YtdeiillfdjebdaaBase
import Derived.Test.YtdeiillfdjebdaaPure41
import Derived.Test.YtdeiillfdjebdaaPure51
import Derived.Test.YtdeiillfdjebdaaPersSlice
import Derived.Test.YtdeiillfdjebdaaArePers
import Derived.Test.YtdeiillfdjebdaaCode5
import Derived.Test.YtdeiillfdjebdaaTabB
import Derived.Test.YtdeiillfdjebdaaSteps5
import Derived.Test.YtdeiillfdjebdaaGroups5
import Derived.Test.YtdeiillfdjebdaaPairs5
import Derived.Test.YtdeiillfdjebdaaFacts
import Derived.LaidEqlPtr
import Derived.WalkKit
import Derived.WalkSpells
import Derived.WalkLawsBesides
import Derived.Lib.Hide
import Derived.Lib.QuietBelow
import Derived.IntWalk
import Derived.Deep.OwnRows
import Derived.Deep.QuietTactic
import Derived.BigQuiet
import Derived.Outline
namespace Go.Proofs.Ytdeiillfdjebdaa
open Go.RowKit Go.Sort Pure1 Pure2 Pure40 Pure41 Pure50 Pure51

/-- a place's pointer -/
def ptrV (b : Nat) : Option Nat → Value
  | none => .pointer none
  | some j => .pointer (some ⟨b, j * 2, none⟩)
/-- block b holds the groups of n persons: par tells who points to whom -/
def Places (w : World) (b n : Nat) (par : Nat → Option Nat) : Prop :=
  ∃ f, w.rowIs b 78 25 f ∧ (∀ i : Nat, i < 12 → f (i * 2) = .int .i64 i) ∧ (∀ i : Nat, i < 12 → f (i * 2 + 1) = ptrV b (par i)) ∧ f 24 = .int .i64 n
theorem Places.idx {w : World} {b n : Nat} {par : Nat → Option Nat} (h : Places w b n par) {i : Nat} (hi : i < 12) : w.cell? ⟨b, i * 2, none⟩ = some (.int .i64 i) := by
  obtain ⟨f, hr, h1, h2, h3⟩ := h
  rw [hr.cell (by omega), h1 i hi]
theorem Places.ptr {w : World} {b n : Nat} {par : Nat → Option Nat} (h : Places w b n par) {i : Nat} (hi : i < 12) : w.cell? ⟨b, i * 2 + 1, none⟩ = some (ptrV b (par i)) := by
  obtain ⟨f, hr, h1, h2, h3⟩ := h
  rw [hr.cell (by omega), h2 i hi]
theorem Places.cnt {w : World} {b n : Nat} {par : Nat → Option Nat} (h : Places w b n par) : w.cell? ⟨b, 24, none⟩ = some (.int .i64 n) := by
  obtain ⟨f, hr, h1, h2, h3⟩ := h
  rw [hr.cell (by omega), h3]
theorem Places.frozen {w : World} {b n : Nat} {par : Nat → Option Nat} (h : Places w b n par) (k : Nat) : w.frozen? ⟨b, k, none⟩ = false := by
  obtain ⟨f, hr, _⟩ := h
  exact hr.frozen k
theorem Places.of_block {w w' : World} {b n : Nat} {par : Nat → Option Nat} (h : Places w b n par) (e : w'.heap[b]? = w.heap[b]?) : Places w' b n par := by
  obtain ⟨f, hr, h1⟩ := h
  exact ⟨f, hr.of_block e, h1⟩
theorem Places.lt {w : World} {b n : Nat} {par : Nat → Option Nat} (h : Places w b n par) : b < w.heap.size := by obtain ⟨f, hr, _⟩ := h; exact hr.lt
theorem Places.set {w : World} {b n : Nat} {par : Nat → Option Nat} (h : Places w b n par) {x y : Nat} : Places (w.setCell ⟨b, y * 2 + 1, none⟩ (ptrV b (some x))) b n (fun j => if j = y then some x else par j) := by
  obtain ⟨f, hr, h1, h2, h3⟩ := h
  refine ⟨_, hr.set _ _, fun i hi => ?_, fun i hi => ?_, ?_⟩
  · show (if i * 2 = y * 2 + 1 then _ else _) = _
    rw [if_neg (by omega)]; exact h1 i hi
  · show (if i * 2 + 1 = y * 2 + 1 then _ else _) = ptrV b (if i = y then _ else _)
    by_cases e : i = y
    · subst e; rw [if_pos rfl, if_pos rfl]
    · rw [if_neg (by omega), if_neg e]; exact h2 i hi
  · show (if 24 = y * 2 + 1 then _ else _) = _
    by_cases e : 24 = y * 2 + 1
    · omega
    · rw [if_neg e]; exact h3
def offOf : Value → Nat
  | .pointer (some a) => a.off
  | _ => 0

set_option maxRecDepth 100000 in
set_option maxHeartbeats 1000000 in
theorem implKeeper_any (b n : Nat) (par : Nat → Option Nat) (i r : Nat) (w : World) (h : Places w b n par) (hi : i < 12) (hless : ∀ i j, par i = some j → j < i) (hr : Root par i r) :
    Calls Try.prog 90 #[.pointer (some ⟨b, i * 2, none⟩)] w fun e w' => e = .returned (.pointer (some ⟨b, r * 2, none⟩)) ∧ w' = w := by
  have HP := Lib.hid h; have HL := Lib.hid hless; have HR := Lib.hid hr
  clear h hless hr
  go_enter Try.func90, Try.ntmps90
  go_wp2
  go_loop [0] (fun p => ∃ k : Nat, k < 12 ∧ p = .pointer (some ⟨b, k * 2, none⟩) ∧ Root par k r) (fun p => offOf p)
  case atStart => exact ⟨i, hi, rfl, HR.out⟩
  case round =>
    obtain ⟨k, hk, rfl, hrk⟩ := hrel
    have HK := Lib.hid hrk; clear hrk
    have hc := HP.out.ptr hk
    cases hp : par k with
    | none =>
      have HE := Lib.hid (show k = r by cases HK.out with
        | top _ => rfl
        | up h _ => rw [hp] at h; cases h)
      rw [hp] at hc
      simp only [ptrV] at hc
      clear hp
      go_wp2_with fail
      go_ret
      exact ⟨by rw [HE.out]; rfl, rfl⟩
    | some j =>
      have HE := Lib.hid (show Root par j r by cases HK.out with
        | top h => rw [hp] at h; cases h
        | up h h2 => rw [hp] at h; cases h; exact h2)
      have hjk := HL.out k j hp
      rw [hp] at hc
      simp only [ptrV] at hc
      clear hp
      go_wp2_with fail
      go_round
      case rel => exact ⟨j, by omega, rfl, HE.out⟩
      case measure => simp [offOf]; omega

set_option maxRecDepth 100000 in
set_option maxHeartbeats 1000000 in
theorem implKeeperOf_any (b n : Nat) (par : Nat → Option Nat) (i r : Nat) (w : World) (h : Places w b n par) (hi : i < 12) (hless : ∀ i j, par i = some j → j < i) (hr : Root par i r) (hr2 : r < 12) :
    Calls Try.prog 70 #[.pointer (some ⟨b, 0, none⟩), .int .i64 (i : Int)] w fun e w' => e = .returned (.int .i64 (r : Int)) ∧ w' = w := by
  have HC := Lib.hid (implKeeper_any b n par i r w h hi hless hr)
  have hc := h.idx hr2
  clear h hless hr
  go_enter Try.func70, Try.ntmps70
  go_wp2_with fail
  refine HC.out.mono ?_; rintro e w' ⟨rfl, rfl⟩
  go_wp2_with fail
  go_ret
  exact ⟨rfl, rfl⟩

section
variable {P : Program} (w : World)
theorem run_neq_ptr_same {tp te : TypeId} {j : TypeInfo} (a : Addr) (hp : P.underlying tp = some (.pointer te)) (hte : P.info? te = some j) :
    (binOp .neq tp (.pointer (some a)) (.pointer (some a))).run P w = .ok (.bool false) w := by
  have h : ∀ d : Nat, (Op.equalIn (d + 1) tp (.pointer (some a)) (.pointer (some a))).run P w = .ok true w := fun d => by
    simp [Op.equalIn, run_underlying hp, sizeOf, typeInfo, hte, run_sameAddr_same]
  simp only [binOp]
  simp [Op.equal, Op.maxDepth, h 9999]
theorem run_neq_ptr_other {tp te : TypeId} {j : TypeInfo} {a b : Addr} {ca cb : Array Value} {ta tb : TypeId} (hp : P.underlying tp = some (.pointer te)) (hte : P.info? te = some j) (hsz : j.size ≠ 0)
    (hne : a ≠ b) (ha : w.heap[a.block]? = some (.cells ca ta (0, 0))) (hb : w.heap[b.block]? = some (.cells cb tb (0, 0))) :
    (binOp .neq tp (.pointer (some a)) (.pointer (some b))).run P w = .ok (.bool true) w := by
  have h : ∀ d : Nat, (Op.equalIn (d + 1) tp (.pointer (some a)) (.pointer (some b))).run P w = .ok false w := fun d => by
    simp [Op.equalIn, run_underlying hp, sizeOf, typeInfo, hte, hsz, run_sameAddr_other w hne ha hb]
  simp only [binOp]
  simp [Op.equal, Op.maxDepth, h 9999]
end
theorem Try.info_place : ∃ j, Try.prog.info? 75 = some j ∧ j.size ≠ 0 := by
  have h : (Try.prog.info? 75).map (fun i => i.size) = some 2 := by kernel_rfl
  obtain ⟨j, hj, h2⟩ := Option.map_eq_some_iff.1 h
  exact ⟨j, hj, by omega⟩
/-- are two places the same? -/
theorem places_neq {w : World} {b n : Nat} {par : Nat → Option Nat} (h : Places w b n par) (x y k : Nat) (hxy : x ≠ y) :
    (binOp .neq 73 (.pointer (some ⟨b, x * 2, none⟩)) (.pointer (some ⟨b, y * 2, none⟩))).run Try.prog (w.drewN k) = .ok (.bool true) (w.drewN k) := by
  obtain ⟨j, hj, hs⟩ := Try.info_place
  obtain ⟨f, ⟨c, hb, _⟩, _⟩ := h
  exact run_neq_ptr_other (w.drewN k) Try.underlying73 hj hs (by intro e; injection e with _ e2 _; omega) hb hb
theorem places_same (w : World) (b x k : Nat) :
    (binOp .neq 73 (.pointer (some ⟨b, x * 2, none⟩)) (.pointer (some ⟨b, x * 2, none⟩))).run Try.prog (w.drewN k) = .ok (.bool false) (w.drewN k) := by
  obtain ⟨j, hj, hs⟩ := Try.info_place
  exact run_neq_ptr_same (w.drewN k) _ Try.underlying73 hj

/-- two groups become one -/
def joinP (par : Nat → Option Nat) (x y : Nat) : Nat → Option Nat :=
  if x = y then par else if x < y then (fun j => if j = y then some x else par j) else (fun j => if j = x then some y else par j)
theorem grown_drewN (w : World) (k : Nat) (r : Option Nat) : w.grownBy (w.drewN k) r := ⟨rfl, rfl, rfl, Nat.le_refl _, fun _ _ _ => rfl⟩
theorem grown_setCell {w : World} {b : Nat} (k : Nat) (v : Value) : w.grownBy (w.setCell ⟨b, k, none⟩ v) (some b) :=
  ⟨rfl, rfl, rfl, by simp, fun j _ hne => Below.heap_setCell w ⟨b, k, none⟩ v j (fun e => hne (by rw [e]))⟩
theorem grown_trans {w1 w2 w3 : World} {r : Option Nat} (h : w1.grownBy w2 r) (h' : w2.grownBy w3 r) : w1.grownBy w3 r :=
  ⟨h'.os.trans h.os, h'.tape.trans h.tape, h'.output.trans h.output, Nat.le_trans h.size h'.size, fun k hk hne => (h'.block k (Nat.lt_of_lt_of_le hk h.size) hne).trans (h.block k hk hne)⟩

theorem results_none {fn : Func} (h : fn.results = #[]) (tmps : Array Value) (P : Program) (w : World) : ∃ v, (results fn tmps).run P w = .ok v w := by
  simp only [results, h]
  simp [Sem.run_bind, Result.andThen]
theorem ended {fn : Func} (h : fn.results = #[]) {R : Ending → World → Prop} {tmps : Array Value} {P : Program} {w : World} (hR : ∀ v, R (.returned v) w) : bodyPost P fn R .normal { tmps := tmps, defers := [] } w := by
  obtain ⟨v, hv⟩ := results_none h tmps P w
  exact ⟨rfl, v, hv, hR v⟩

set_option maxRecDepth 100000 in
set_option maxHeartbeats 1000000 in
theorem implJoin_any (b n : Nat) (par : Nat → Option Nat) (i k x y : Nat) (w : World) (h : Places w b n par) (hi : i < 12) (hk : k < 12) (hless : ∀ i j, par i = some j → j < i) (hx : Root par i x) (hy : Root par k y) (hx2 : x < 12) (hy2 : y < 12) :
    Calls Try.prog 79 #[.pointer (some ⟨b, i * 2, none⟩), .pointer (some ⟨b, k * 2, none⟩)] w fun e w' => (∃ v, e = .returned v) ∧ Places w' b n (joinP par x y) ∧ w.grownBy w' (some b) := by
  have HC1 := Lib.hid (implKeeper_any b n par i x w h hi hless hx)
  have HC2 := Lib.hid (implKeeper_any b n par k y w h hk hless hy)
  have HP := Lib.hid h
  have cx := h.idx hx2; have cy := h.idx hy2
  have px := h.ptr hx2; have py := h.ptr hy2
  have fx := h.frozen (x * 2 + 1); have fy := h.frozen (y * 2 + 1)
  clear h hless hx hy
  by_cases e : x = y
  · subst e
    have HN := Lib.hid (show joinP par x x = par by simp [joinP])
    have HQ := Lib.hid (places_same w b x)
    go_enter Try.func79, Try.ntmps79
    go_wp2_with fail
    refine HC1.out.mono ?_; rintro e w' ⟨rfl, rfl⟩
    go_wp2_with fail
    refine HC2.out.mono ?_; rintro e w' ⟨rfl, rfl⟩
    go_wp2_with fail
    go_quiet (fail)
    have hq := HQ.out nq
    go_wp2_with fail
    exact ended rfl fun v => ⟨⟨v, rfl⟩, (by rw [HN.out]; exact HP.out.of_block rfl), grown_drewN _ _ _⟩
  · by_cases hlt : x < y
    · have HN := Lib.hid (show joinP par x y = (fun j => if j = y then some x else par j) by simp [joinP, e, hlt])
      have HQ := Lib.hid (places_neq HP.out x y)
      go_enter Try.func79, Try.ntmps79
      go_wp2_with fail
      refine HC1.out.mono ?_; rintro e w' ⟨rfl, rfl⟩
      go_wp2_with fail
      refine HC2.out.mono ?_; rintro e w' ⟨rfl, rfl⟩
      have hle : x ≤ y := by omega
      go_wp2_with fail
      go_quiet (fail)
      have hq := HQ.out nq e
      go_wp2_with fail
      exact ended rfl fun v => ⟨⟨v, rfl⟩, by rw [HN.out]; exact (show Places (w'.drewN nq) b n par from HP.out.of_block rfl).set, grown_trans (grown_drewN _ nq _) (grown_setCell _ _)⟩
    · have HN := Lib.hid (show joinP par x y = (fun j => if j = x then some y else par j) by simp [joinP, e, hlt])
      have e' : y ≠ x := fun h => e h.symm
      have HQ := Lib.hid (places_neq HP.out y x)
      go_enter Try.func79, Try.ntmps79
      go_wp2_with fail
      refine HC1.out.mono ?_; rintro e w' ⟨rfl, rfl⟩
      go_wp2_with fail
      refine HC2.out.mono ?_; rintro e w' ⟨rfl, rfl⟩
      have hle : y < x := by omega
      go_wp2_with fail
      go_quiet (fail)
      have hq := HQ.out nq e'
      go_wp2_with fail
      exact ended rfl fun v => ⟨⟨v, rfl⟩, by rw [HN.out]; exact (show Places (w'.drewN nq) b n par from HP.out.of_block rfl).set, grown_trans (grown_drewN _ nq _) (grown_setCell _ _)⟩
end Go.Proofs.Ytdeiillfdjebdaa
