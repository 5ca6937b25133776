/- Contract: slices.Delete of one call. (written by impl10.py) -/
import Derived.Test.YtekhdggaelppkaaChecked
import Derived.Test.YtekhdggaelppkaaBase0
import Derived.Test.YtekhdggaelppkaaInfo
import Derived.Test.YtekhdggaelppkaaCallB
import Derived.Test.YtekhdggaelppkaaCallC
import Derived.Test.YtekhdggaelppkaaCallD
import Derived.Test.YtekhdggaelppkaaPure100
import Derived.Test.YtekhdggaelppkaaSet10
import Derived.Test.YtekhdggaelppkaaCopy10
import Derived.Test.YtekhdggaelppkaaIns10
import Derived.Test.YtekhdggaelppkaaIns10b
import Derived.WalkKit
import Derived.WalkSpells
import Derived.WalkLawsBesides
import Derived.Lib.Hide
import Derived.Lib.QuietBelow
import Derived.IntWalk
import Derived.Deep.QuietTactic
import Derived.BigQuiet
import Derived.BigRegion
import Derived.OwnWalk
import Derived.RegionTactic
import Derived.Outline
import Derived.Laws.IdiomCopy
import Derived.Deep.OwnRows
import Derived.Deep.RegionLaw
import Derived.Lib.SliceRun
import Derived.Shelf.RegionOpenPlain
import Derived.Shelf.Abstract
import Derived.WalkMore
namespace Go.Proofs.Ytekhdggaelppkaa
open Go.Shelf Go.RowKit Go.Sort Pure1 Pure2 Pure20 Pure21 Pure40

theorem run_clear_one10 {P : Program} (w : World) (t e ty : TypeId) (z : Value) (ht : P.underlying t = some (.slice e)) (hv : ∀ w, (zeroValue e).run P w = .ok z w) (hz : z.cells = #[.int .i64 0, .int .i64 0, .int .i64 0, .int .i64 0]) (b o c : Nat)
    (hc : ∀ j, j < 4 → (w.cell? ⟨b, o + j, none⟩).isSome = true) (hf : ∀ j, j < 4 → w.frozen? ⟨b, o + j, none⟩ = false) :
    (Builtin.clear_ #[t] ty #[.slice (some ⟨b, o, none⟩) 1 c]).run P w = .ok (.tuple #[]) (w.setCells b o [.int .i64 0, .int .i64 0, .int .i64 0, .int .i64 0]) := by
  have hst := run_storeCells_cells (P := P) b o [.int .i64 0, .int .i64 0, .int .i64 0, .int .i64 0] 0 w (by simpa using hc) (by simpa using hf) (by intro v hv'; simp at hv'; subst hv'; rfl)
  simp only [Nat.add_zero] at hst
  have hzc : (Builtin.zeroCells z.cells 1).toList = [.int .i64 0, .int .i64 0, .int .i64 0, .int .i64 0] := by rw [hz]; kernel_rfl
  simp [Builtin.clear_, run_underlying ht, hv, hzc, hst]

set_option maxRecDepth 1000000 in
set_option maxHeartbeats 4000000 in
theorem del_cells10 (b n c i : Nat) (cs : List Value) (w : World) (hi : i < n) (hn : n ≤ 1000) (hnc : n ≤ c) (hc63 : c ≤ 9223372036854775807) (hcl : cs.length = n * 4)
    (hcs : ∀ j v, cs[j]? = some v → w.cell? ⟨b, j, none⟩ = some v) (hfz : ∀ j, w.frozen? ⟨b, j, none⟩ = false) (h1c : ∀ v ∈ cs, v.oneCell' = true) :
    Calls Try.prog 73 #[.slice (some ⟨b, 0, none⟩) n c, .int .i64 i, .int .i64 ((i : Int) + 1)] w fun e w' =>
      e = .returned (.slice (some ⟨b, 0, none⟩) (n - 1) c) ∧ w' = (w.drew.setCells b (i * 4) (cs.drop ((i + 1) * 4))).setCells b ((n - 1) * 4) [.int .i64 0, .int .i64 0, .int .i64 0, .int .i64 0] := by
  have u24 : Try.prog.underlying 25 = some (.slice 41) := Try.underlying25
  obtain ⟨i0, hi0, hzz⟩ := Option.map_eq_some_iff.1 Try.infoCall
  simp only [Prod.mk.injEq] at hzz
  obtain ⟨hz0, hzs, hzb⟩ := hzz
  have mixed : Try.prog.follows .mixedOrders = true := by kernel_rfl
  obtain ⟨news, hnews⟩ : ∃ news, news = cs.drop ((i + 1) * 4) := ⟨_, rfl⟩
  have hlen : news.length = (n - (i + 1)) * 4 := by rw [hnews, List.length_drop, hcl]; omega
  obtain ⟨A, hA, hsrc0⟩ : ∃ A : Addr, (if c = i + 1 then some (⟨b, 0, none⟩ : Addr) else some ⟨b, (i + 1) * 4, none⟩) = some A ∧ (∀ t u, news[t]? = some u → w.drew.cell? (A.add t) = some u) := by
    by_cases h : c = i + 1
    · refine ⟨⟨b, 0, none⟩, by simp [h], fun t u hu => ?_⟩
      have h0 : news.length = 0 := by rw [hlen]; omega
      rw [List.length_eq_zero_iff.1 h0] at hu
      simp at hu
    · refine ⟨⟨b, (i + 1) * 4, none⟩, by simp [h], fun t u hu => ?_⟩
      rw [hnews, List.getElem?_drop] at hu
      rw [Addr.add_mid]
      exact hcs _ u hu
  have s2 : ∀ u ∈ news, u.oneCell' = true := fun u hu => h1c u (List.mem_of_mem_drop (by rw [← hnews]; exact hu))
  have hsome : ∀ j, j < n * 4 → (w.cell? ⟨b, j, none⟩).isSome = true := fun j hj => by
    have e : cs[j]? = some (cs[j]'(by omega)) := List.getElem?_eq_getElem _
    rw [hcs j _ e]; rfl
  have s3 : ∀ t, t < news.length → (w.drew.cell? ⟨b, 0 + i * 4 + t, none⟩).isSome = true ∧ w.drew.frozen? ⟨b, 0 + i * 4 + t, none⟩ = false := fun t ht => by
    rw [hlen] at ht
    exact ⟨hsome _ (by omega), hfz _⟩
  obtain ⟨W1, hW1⟩ : ∃ W1, W1 = w.drew.setCells b (0 + i * 4) news := ⟨_, rfl⟩
  have hcl2 : ∀ ty cc, (Builtin.clear_ #[25] ty #[.slice (some ⟨b, (i + (n - (i + 1))) * 4, none⟩) (n - (i + (n - (i + 1)))) cc]).run Try.prog W1 = .ok (.tuple #[]) (W1.setCells b ((i + (n - (i + 1))) * 4) [.int .i64 0, .int .i64 0, .int .i64 0, .int .i64 0]) := fun ty cc => by
    rw [show n - (i + (n - (i + 1))) = 1 by omega]
    refine run_clear_one10 W1 _ 41 ty _ u24 Try.zeroValue41 rfl b _ cc (fun j hj => ?_) (fun j hj => ?_)
    · rw [hW1]
      exact isSome_setCells10 b news (0 + i * 4) w.drew (fun t ht => (s3 t ht).1) _ (hsome _ (by omega))
    · rw [hW1, World.frozen?_setCells]; exact hfz _
  have hsrc := Lib.hid hsrc0
  clear hsrc0
  have S1 := Lib.hid hlen; have S2 := Lib.hid s2; have S3 := Lib.hid s3
  have hW := Lib.hid hW1
  have X := Lib.hid (show (w.drew.setCells b (i * 4) (cs.drop ((i + 1) * 4))).setCells b ((n - 1) * 4) [.int .i64 0, .int .i64 0, .int .i64 0, .int .i64 0] = W1.setCells b ((i + (n - (i + 1))) * 4) [.int .i64 0, .int .i64 0, .int .i64 0, .int .i64 0] by rw [hW1, ← hnews, Nat.zero_add, show i + (n - (i + 1)) = n - 1 by omega])
  rw [X.out]
  have hic : i ≤ c := by omega
  have hjc : i + 1 ≤ c := by omega
  have hin : i ≤ n := by omega
  have hjn : i + 1 ≤ n := by omega
  have hnc2 : i + (n - (i + 1)) ≤ c := by omega
  have hne : ¬ ((i : Int) = (i : Int) + 1) := by omega
  have htn : ((i : Int) + 1).toNat = i + 1 := by omega
  have hw1 : IntKind.i64.wrap ((i : Int) + 1) = (i : Int) + 1 := by rw [IntKind.wrap_i64]; omega
  have hij1 : (i : Int) ≤ (i : Int) + 1 := by omega
  have h0j : (0 : Int) ≤ (i : Int) + 1 := by omega
  have hjn2 : (i : Int) + 1 ≤ (n : Int) := by omega
  have hcne : ¬ (c = i + (n - (i + 1))) := by omega
  have X2 := Lib.hid (show n - 1 = i + (n - (i + 1)) by omega)
  rw [X2.out]
  clear hW1 s2 s3 hnews hlen hcs hfz h1c hcl hsome X
  go_enter Try.func73, Try.ntmps73
  go_wp2_with fail
  go_region_law_o (refine step_append_room rfl (.tmp 22) (.tmp 25) 25 rfl 41 i0 4 u24 hi0 hzs b 0 i c (by simp [Act.eval, Act.put]) A (n - (i + 1)) (c - (i + 1)) news (by simp [Act.eval, Act.put]) S1.out hsrc.out S2.out (by omega) S3.out ?_; rw [← hW.out])
  go_wp2
  go_ret
  exact ⟨rfl, rfl⟩

theorem flat_own10 {B b N : Nat} {w : World} {us : List Call} {f : Nat → Value} (hB : B ≤ b) (hN : us.length ≤ N) (hr : w.rowIs b 41 (N * 4) f) (hf : ∀ j, j < us.length * 4 → (Call.vals us)[j]? = some (f j)) :
    Call.Own B w (some ⟨b, 0, none⟩) us.length (Call.flat us) :=
  .inr ⟨b, f, N, rfl, hB, hN, hr, fun j hj => by have h1 := hf j hj; rw [Call.vals_get hj] at h1; exact (Option.some.inj h1).symm⟩
set_option maxHeartbeats 1000000 in
/-- one of a list of our own is deleted -/
theorem delete10_any (B : Nat) (v : Value) (ts : List Call) (i : Nat) (w : World) (h : Call.Bd w B v ts) (hB : B ≤ w.heap.size) (hl : ts.length ≤ 20) (hi : i < ts.length) :
    Calls Try.prog 73 #[v, .int .i64 i, .int .i64 ((i : Int) + 1)] w (SaysIns10 B (ts.take i ++ ts.drop (i + 1)) w) := by
  have hlen : (ts.take i ++ ts.drop (i + 1)).length = ts.length - 1 := by rw [List.length_append, List.length_take, List.length_drop]; omega
  rcases h.parts with ⟨_, rfl⟩ | hL
  · simp at hi
  obtain ⟨⟨g, cap, rfl⟩, hrow0⟩ := id hL
  have hcs : ∀ j u, (Call.vals ts)[j]? = some u → w.cell? ⟨g, j, none⟩ = some u := fun j u hu => hL.cell hu
  have hcl := Call.vals_len ts
  rcases hrow0.2 with ⟨e, _⟩ | ⟨g', cap', cur, e, hgB, hcur, hnc, hmax, hsz, hrest⟩
  · cases e
  cases e
  have hrow : w.rowIs g 41 (cap * 4) (fun j => cur.getD j undef) := ⟨cur, hcur, hsz, fun j hj => by simp [Array.getD, show j < cur.size by omega]⟩
  unfold maxLen at hmax
  have hcv : ∀ j, j < ts.length * 4 → (Call.vals ts)[j]? = some (cur.getD j undef) := fun j hj => by
    have e : (Call.vals ts)[j]? = some ((Call.vals ts)[j]'(by omega)) := List.getElem?_eq_getElem _
    have h1 := hcs j _ e
    rw [hrow.cell (by omega)] at h1
    rw [e]; exact h1.symm
  refine (del_cells10 g ts.length cap i (Call.vals ts) w hi (by omega) hnc (by omega) hcl hcs (fun j => hrow.frozen j) Call.vals_one).mono ?_
  rintro e w' ⟨rfl, rfl⟩
  have hr1 := rowIs_setCells10 ((Call.vals ts).drop ((i + 1) * 4)) (i * 4) w.drew _ (rowIs_drew10 hrow)
  have hr2 := rowIs_setCells10 [.int .i64 0, .int .i64 0, .int .i64 0, .int .i64 0] ((ts.length - 1) * 4) _ _ hr1
  have hdl : ((Call.vals ts).drop ((i + 1) * 4)).length = (ts.length - (i + 1)) * 4 := by rw [List.length_drop, hcl]; omega
  refine ⟨g, cap, by rw [hlen], flat_own10 hgB (by rw [hlen]; omega) hr2 (fun j hj => ?_), below_setCells10 hgB _ _ (below_setCells10 hgB _ _ (Below.refl _ _).drew)⟩
  rw [hlen] at hj
  obtain ⟨hs1, _⟩ := Call.vals_split (ts := ts) (i := i) (by omega)
  obtain ⟨_, hs2⟩ := Call.vals_split (ts := ts) (i := i + 1) (by omega)
  have hlt : ((Call.vals ts).take (i * 4)).length = i * 4 := by rw [List.length_take, hcl]; omega
  rw [if_neg (by simp; omega), Call.vals_append, ← hs1, ← hs2]
  by_cases c1 : j < i * 4
  · rw [if_neg (by omega), List.getElem?_append_left (by omega), List.getElem?_take_of_lt c1]
    exact hcv j (by omega)
  · rw [if_pos ⟨by omega, by rw [hdl]; omega⟩, List.getElem?_append_right (by omega), hlt]
    exact get_getD10 (by rw [hdl]; omega)

end Go.Proofs.Ytekhdggaelppkaa
