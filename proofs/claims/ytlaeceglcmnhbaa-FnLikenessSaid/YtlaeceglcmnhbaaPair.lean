/- Contracts: spec.DrawLikenessOf and spec.DrawAreAlike draw two persons (and a limit). -/
import Derived.Test.YtlaeceglcmnhbaaChecked
import Derived.Test.YtlaeceglcmnhbaaBase
import Derived.Test.YtlaeceglcmnhbaaPure40
import Derived.Test.YtlaeceglcmnhbaaPure6
import Derived.Test.YtlaeceglcmnhbaaNext
import Derived.Test.YtlaeceglcmnhbaaFrom
import Derived.Test.YtlaeceglcmnhbaaFromB
import Derived.Test.YtlaeceglcmnhbaaPick
import Derived.Test.YtlaeceglcmnhbaaPersLaw
import Derived.Test.YtlaeceglcmnhbaaGood4
import Derived.Test.YtlaeceglcmnhbaaDraw4
import Derived.Test.YtlaeceglcmnhbaaFacts2
import Derived.Test.YtlaeceglcmnhbaaList4
import Derived.WalkKit
import Derived.WalkSpells
import Derived.WalkLawsBesides
import Derived.Lib.Hide
import Derived.IntWalk
import Derived.Outline
namespace Go.Proofs.Ytlaeceglcmnhbaa
open Go.RowKit Pure1 Pure2 Pure6 Pure40
set_option linter.unusedSimpArgs false

theorem results_cells2 {fn : Func} {p u : Tmp} {ty ty2 : TypeId} (h : fn.results = #[.cell p ty, .cell u ty2]) (tmps : Array Value) (P : Program) (w : World) :
    (results fn tmps).run P w = ((asAddr (tmps.getD p undef)).run P w).andThen fun a w₁ => ((loadVar ty a).run P w₁).andThen fun v w₂ => ((asAddr (tmps.getD u undef)).run P w₂).andThen fun a2 w₃ => ((loadVar ty2 a2).run P w₃).andThen fun v2 w₄ => .ok (.tuple #[v, v2]) w₄ := by
  simp only [results, h]
  simp [Sem.run_bind, Result.andThen]
theorem results_cells3 {fn : Func} {p u t : Tmp} {ty ty2 : TypeId} (h : fn.results = #[.cell p ty, .cell u ty2, .tmp t]) (tmps : Array Value) (P : Program) (w : World) :
    (results fn tmps).run P w = ((asAddr (tmps.getD p undef)).run P w).andThen fun a w₁ => ((loadVar ty a).run P w₁).andThen fun v w₂ => ((asAddr (tmps.getD u undef)).run P w₂).andThen fun a2 w₃ => ((loadVar ty2 a2).run P w₃).andThen fun v2 w₄ => .ok (.tuple #[v, v2, tmps.getD t undef]) w₄ := by
  simp only [results, h]
  simp [Sem.run_bind, Result.andThen]
theorem results_tmp_cell {fn : Func} {p u : Tmp} {ty : TypeId} (h : fn.results = #[.tmp u, .cell p ty]) (tmps : Array Value) (P : Program) (w : World) :
    (results fn tmps).run P w = ((asAddr (tmps.getD p undef)).run P w).andThen fun a w₁ => ((loadVar ty a).run P w₁).andThen fun v w₂ => .ok (.tuple #[tmps.getD u undef, v]) w₂ := by
  simp only [results, h]
  simp [Sem.run_bind, Result.andThen]

theorem atB_grown {w w' : World} {r k : Nat} {p : Pers} (h : AtB w r p) (hg : w.grownBy w' (some k)) (hne : r ≠ k) : AtB w' r p :=
  AtB_block h (hg.block r (World.block_lt_of_cell? w _ h.1) (fun e => hne (Option.some.inj e)))
theorem row_later {w w' : World} {b n : Nat} {T : TypeId} {f : Nat → Value} (h : w.rowIs b T n f) (hb : Below w.heap.size w w') : w'.rowIs b T n f := h.of_block (hb.block b h.lt)
theorem grown_refl (w : World) (r : Option Nat) : w.grownBy w r := ⟨rfl, rfl, rfl, Nat.le_refl _, fun _ _ _ => rfl⟩
theorem grown_put (w : World) (r o : Nat) (v : Value) : w.grownBy (w.setCell ⟨r, o, none⟩ v) (some r) :=
  ⟨rfl, rfl, rfl, by simp [World.setCell], fun k _ hk => Below.heap_setCell _ _ _ _ (fun e => hk (by rw [e]))⟩
/-- a person stored in a row -/
def putP (w : World) (r : Nat) (p : Pers) : World := ((((w.setCell ⟨r, 0, none⟩ (.int .i64 p.num)).setCell ⟨r, 1, none⟩ (.string p.fst)).setCell ⟨r, 2, none⟩ (.string p.lst)).setCell ⟨r, 3, none⟩ (.int .i64 p.born)).setCell ⟨r, 4, none⟩ (.int .i64 p.zone)
theorem putP_grown (w : World) (r : Nat) (p : Pers) : w.grownBy (putP w r p) (some r) :=
  grown_trans (grown_trans (grown_trans (grown_trans (grown_put w r 0 _) (grown_put _ r 1 _)) (grown_put _ r 2 _)) (grown_put _ r 3 _)) (grown_put _ r 4 _)
theorem putP_row {w : World} {r : Nat} {T : TypeId} {f : Nat → Value} (h : w.rowIs r T 5 f) (p : Pers) : (∃ f', (putP w r p).rowIs r T 5 f') ∧ AtB (putP w r p) r p := by
  have hr := ((((h.set 0 (.int .i64 p.num)).set 1 (.string p.fst)).set 2 (.string p.lst)).set 3 (.int .i64 p.born)).set 4 (.int .i64 p.zone)
  exact ⟨⟨_, hr⟩, hr.cell (show 0 < 5 by omega), hr.cell (show 1 < 5 by omega), hr.cell (show 2 < 5 by omega), hr.cell (show 3 < 5 by omega), hr.cell (show 4 < 5 by omega)⟩

/-- the source, the rows of the two results, the boxes of two persons -/
structure Apart (B b r2 r3 bp bq : Nat) : Prop where
  r23 : r2 ≠ r3
  r2b : r2 ≠ b
  r3b : r3 ≠ b
  pb : bp ≠ b
  p2 : bp ≠ r2
  p3 : bp ≠ r3
  qb : bq ≠ b
  q2 : bq ≠ r2
  q3 : bq ≠ r3
  B2 : B ≤ r2
  B3 : B ≤ r3
  Bb : B ≤ b
structure PairG (B b r2 r3 bp bq : Nat) (p q : Pers) (w1 w : World) : Prop where
  src : Src B 71 w b
  below : Below B w1 w
  sz : B ≤ w.heap.size
  row2 : ∃ f, w.rowIs r2 25 5 f
  row3 : ∃ f, w.rowIs r3 25 5 f
  atp : AtB w bp p
  atq : AtB w bq q
def PairR (s2 s3 b r2 r3 : Nat) (i : Nat) (w w' : World) : Prop := ∃ k, (k = b ∨ (i = s2 ∧ k = r2) ∨ (i = s3 ∧ k = r3)) ∧ w.grownBy w' (some k)
section
variable {B b r2 r3 bp bq : Nat} {p q : Pers} {w1 w w' : World}
theorem PairG.next (h : PairG B b r2 r3 bp bq p q w1 w) (ha : Apart B b r2 r3 bp bq) (hs : Src B 71 w' b) (hg : w.grownBy w' (some b)) : PairG B b r2 r3 bp bq p q w1 w' := by
  obtain ⟨f2, h2⟩ := h.row2; obtain ⟨f3, h3⟩ := h.row3
  exact ⟨hs, h.below.grown hg h.sz (fun k hk => by cases hk; exact ha.Bb), Nat.le_trans h.sz hg.size, ⟨f2, row_grown h2 hg ha.r2b⟩, ⟨f3, row_grown h3 hg ha.r3b⟩, atB_grown h.atp hg ha.pb, atB_grown h.atq hg ha.qb⟩
theorem PairG.alloc (h : PairG B b r2 r3 bp bq p q w1 w) (ha : Apart B b r2 r3 bp bq) (o : Obj) : PairG B b r2 r3 bp bq p q w1 (w.alloc o) := h.next ha (h.src.alloc o) (grown_alloc _ _ _)
theorem PairG.drew (h : PairG B b r2 r3 bp bq p q w1 w) (ha : Apart B b r2 r3 bp bq) : PairG B b r2 r3 bp bq p q w1 w.drew := by
  have hg : w.grownBy w.drew (some b) := ⟨rfl, rfl, rfl, Nat.le_refl _, fun _ _ _ => rfl⟩
  exact h.next ha (h.src.kept rfl (Below.drew (Below.refl _ _))) hg
theorem PairG.put2 (h : PairG B b r2 r3 bp bq p q w1 w) (ha : Apart B b r2 r3 bp bq) (x : Pers) : PairG B b r2 r3 bp bq p q w1 (putP w r2 x) := by
  obtain ⟨f2, h2⟩ := h.row2; obtain ⟨f3, h3⟩ := h.row3
  have hg := putP_grown w r2 x
  exact ⟨h.src.kept (hg.block b h.src.lt (fun e => ha.r2b (Option.some.inj e).symm)) ((Below.refl B w).grown hg h.sz (fun k hk => by cases hk; exact ha.B2)), h.below.grown hg h.sz (fun k hk => by cases hk; exact ha.B2), Nat.le_trans h.sz hg.size, (putP_row h2 x).1, ⟨f3, row_grown h3 hg (fun e => ha.r23 e.symm)⟩, atB_grown h.atp hg ha.p2, atB_grown h.atq hg ha.q2⟩
theorem PairG.put3 (h : PairG B b r2 r3 bp bq p q w1 w) (ha : Apart B b r2 r3 bp bq) (x : Pers) : PairG B b r2 r3 bp bq p q w1 (putP w r3 x) := by
  obtain ⟨f2, h2⟩ := h.row2; obtain ⟨f3, h3⟩ := h.row3
  have hg := putP_grown w r3 x
  exact ⟨h.src.kept (hg.block b h.src.lt (fun e => ha.r3b (Option.some.inj e).symm)) ((Below.refl B w).grown hg h.sz (fun k hk => by cases hk; exact ha.B3)), h.below.grown hg h.sz (fun k hk => by cases hk; exact ha.B3), Nat.le_trans h.sz hg.size, ⟨f2, row_grown h2 hg ha.r23⟩, (putP_row h3 x).1, atB_grown h.atp hg ha.p3, atB_grown h.atq hg ha.q3⟩
theorem PairR.same {s2 s3 i : Nat} (w : World) : PairR s2 s3 b r2 r3 i w w := ⟨b, .inl rfl, grown_refl _ _⟩
end
def Pers.agg (p : Pers) : Value := .agg #[.int .i64 p.num, .string p.fst, .string p.lst, .int .i64 p.born, .int .i64 p.zone]
def LikeF (b r2 r3 : Nat) (p : Pers) : Nat → Value → World → Prop
  | 0, v, _ => v = .agg #[.int .i64 p.num, .string p.fst, .string p.lst, .int .i64 p.born, .int .i64 p.zone]
  | 1, v, _ => v = .pointer (some ⟨b, 0, none⟩)
  | 2, v, _ => ∃ q : Pers, v = .agg #[.int .i64 q.num, .string q.fst, .string q.lst, .int .i64 q.born, .int .i64 q.zone] ∧ Small q
  | 3, _, w => AtB w r2 p
  | 4, _, w => ∃ q : Pers, Small q ∧ AtB w r3 q
  | _, _, _ => True
def zs8 : List Int := [50, 60, 70, 80, 0, 100, 101, -1]
def AlikeF (b r2 r3 : Nat) (p q : Pers) : Nat → Value → World → Prop
  | 0, v, _ => v = .agg #[.int .i64 p.num, .string p.fst, .string p.lst, .int .i64 p.born, .int .i64 p.zone]
  | 1, v, _ => v = .agg #[.int .i64 q.num, .string q.fst, .string q.lst, .int .i64 q.born, .int .i64 q.zone]
  | 2, v, _ => v = .pointer (some ⟨b, 0, none⟩)
  | 3, v, w => ∃ g, v = .slice (some ⟨g, 0, none⟩) 8 8 ∧ g ≠ b ∧ g ≠ r2 ∧ g ≠ r3 ∧ ∀ i x, zs8[i]? = some x → w.cell? ⟨g, i, none⟩ = some (.int .i64 x)
  | 4, v, _ | 7, v, _ => ∃ x, v = .int .i64 x
  | 5, _, w => AtB w r2 p
  | 6, _, w => AtB w r3 q
  | _, _, _ => True

/-- two persons are drawn -/
def DrewPP (w : World) (e : Ending) (w' : World) : Prop := ∃ p q : Pers, e = .returned (.tuple #[.agg #[.int .i64 p.num, .string p.fst, .string p.lst, .int .i64 p.born, .int .i64 p.zone], .agg #[.int .i64 q.num, .string q.fst, .string q.lst, .int .i64 q.born, .int .i64 q.zone]]) ∧ Small p ∧ Small q ∧ Below w.heap.size w w'
/-- two persons and a number are drawn -/
def DrewPPI (w : World) (e : Ending) (w' : World) : Prop := ∃ (p q : Pers) (x : Int), e = .returned (.tuple #[.agg #[.int .i64 p.num, .string p.fst, .string p.lst, .int .i64 p.born, .int .i64 p.zone], .agg #[.int .i64 q.num, .string q.fst, .string q.lst, .int .i64 q.born, .int .i64 q.zone], .int .i64 x]) ∧ Small p ∧ Small q ∧ Below w.heap.size w w'

set_option maxRecDepth 100000 in
set_option maxHeartbeats 2000000 in
theorem specDrawLikenessOf_any (a : Option Addr) (len cap : Nat) (bs : List Int) (w : World) (hl : bs.length = len) (hm : len ≤ 4096) (h : BytesAt w.heap.size w a bs) :
    Calls Try.prog 8 #[.slice a len cap] w (DrewPP w) := by
  have hsz1 : (w.alloc (.cells #[.int .i64 0, .string ⟨#[]⟩, .string ⟨#[]⟩, .int .i64 0, .int .i64 0] 25)).heap.size = w.heap.size + 1 := by simp
  have hsz2 : ((w.alloc (.cells #[.int .i64 0, .string ⟨#[]⟩, .string ⟨#[]⟩, .int .i64 0, .int .i64 0] 25)).alloc (.cells #[.int .i64 0, .string ⟨#[]⟩, .string ⟨#[]⟩, .int .i64 0, .int .i64 0] 25)).heap.size = w.heap.size + 2 := by simp
  have HB0 := Lib.hid (show Below w.heap.size w ((w.alloc (.cells #[.int .i64 0, .string ⟨#[]⟩, .string ⟨#[]⟩, .int .i64 0, .int .i64 0] 25)).alloc (.cells #[.int .i64 0, .string ⟨#[]⟩, .string ⟨#[]⟩, .int .i64 0, .int .i64 0] 25)) from ((Below.refl _ _).alloc (Nat.le_refl _) _).alloc (by omega) _)
  have HF := Lib.hid (specFrom_low w.heap.size a len cap bs ((w.alloc (.cells #[.int .i64 0, .string ⟨#[]⟩, .string ⟨#[]⟩, .int .i64 0, .int .i64 0] 25)).alloc (.cells #[.int .i64 0, .string ⟨#[]⟩, .string ⟨#[]⟩, .int .i64 0, .int .i64 0] 25)) hl hm (by omega) (h.below HB0.out))
  have HR2 := Lib.hid ((row_box w ⟨0, ⟨#[]⟩, ⟨#[]⟩, 0, 0⟩ 25).alloc (.cells #[.int .i64 0, .string ⟨#[]⟩, .string ⟨#[]⟩, .int .i64 0, .int .i64 0] 25))
  have HR3 := Lib.hid (show ((w.alloc (.cells #[.int .i64 0, .string ⟨#[]⟩, .string ⟨#[]⟩, .int .i64 0, .int .i64 0] 25)).alloc (.cells #[.int .i64 0, .string ⟨#[]⟩, .string ⟨#[]⟩, .int .i64 0, .int .i64 0] 25)).rowIs (w.heap.size + 1) 25 5 (cellF ⟨0, ⟨#[]⟩, ⟨#[]⟩, 0, 0⟩) by have := row_box (w.alloc (.cells #[.int .i64 0, .string ⟨#[]⟩, .string ⟨#[]⟩, .int .i64 0, .int .i64 0] 25)) ⟨0, ⟨#[]⟩, ⟨#[]⟩, 0, 0⟩ 25; rw [hsz1] at this; exact this)
  clear h hl
  go_enter Try.func8, Try.ntmps8
  go_wp2_with fail
  refine HF.out.mono ?_; rintro e w1 ⟨b, rfl, hS, hbB, hB⟩
  rw [hsz2] at hbB hB
  have HR21 := Lib.hid (row_later HR2.out (by rw [hsz2]; exact hB)); have HR31 := Lib.hid (row_later HR3.out (by rw [hsz2]; exact hB))
  have hz1 : w.heap.size + 2 ≤ w1.heap.size := by have := hB.size; rw [hsz2] at this; exact this
  have HB1 := Lib.hid (HB0.out.trans (hB.mono (by omega))); have HS1 := Lib.hid hS
  clear hS hB HB0 HF HR2 HR3
  go_wp2_with fail
  refine (specDraw4_any _ b w1 HS1.out).mono ?_; rintro e w2 ⟨p, rfl, hp, hS, hg⟩
  have HP := Lib.hid hp; have hlt2 := hS.lt; have hz2 : w1.heap.size ≤ w2.heap.size := hg.size
  have HR22 := Lib.hid ((row_grown HR21.out hg (by omega)).alloc (.cells #[.int .i64 p.num, .string p.fst, .string p.lst, .int .i64 p.born, .int .i64 p.zone] 25)); have HR32 := Lib.hid ((row_grown HR31.out hg (by omega)).alloc (.cells #[.int .i64 p.num, .string p.fst, .string p.lst, .int .i64 p.born, .int .i64 p.zone] 25))
  have HB2 := Lib.hid ((HB1.out.trans (grown_below hg (by omega) (by omega))).alloc (by omega) (.cells #[.int .i64 p.num, .string p.fst, .string p.lst, .int .i64 p.born, .int .i64 p.zone] 25)); have HS2 := Lib.hid (hS.alloc (.cells #[.int .i64 p.num, .string p.fst, .string p.lst, .int .i64 p.born, .int .i64 p.zone] 25))
  have HP2 := Lib.hid (atB_box w2 p.num p.fst p.lst p.born p.zone 25)
  have hz3 : (w2.alloc (.cells #[.int .i64 p.num, .string p.fst, .string p.lst, .int .i64 p.born, .int .i64 p.zone] 25)).heap.size = w2.heap.size + 1 := by simp
  clear hS hg hp HR21 HR31 HS1 HB1
  go_wp2_with fail
  generalize w2.alloc (.cells #[.int .i64 p.num, .string p.fst, .string p.lst, .int .i64 p.born, .int .i64 p.zone] 25) = w3 at HR22 HR32 HB2 HS2 HP2 hz3 ⊢
  obtain ⟨bp, hbp⟩ : ∃ bp, w2.heap.size = bp := ⟨_, rfl⟩
  rw [hbp] at HP2 hlt2 hz2 hz3 ⊢
  obtain ⟨r2, hr2⟩ : ∃ r2, w.heap.size = r2 := ⟨_, rfl⟩
  have HW := Lib.hid hr2
  rw [hr2] at HR22 HR32 HB2 HS2 hbB hz1 ⊢
  have HA := Lib.hid (show Apart r2 b r2 (r2 + 1) bp bp from ⟨by omega, by omega, by omega, by omega, by omega, by omega, by omega, by omega, by omega, by omega, by omega, by omega⟩)
  clear hsz1 hsz2 hbp hr2
  refine wp_region_facts2 (sz := 13) [2, 3, 4, 5] (by kernel_rfl) (by kernel_rfl) (by kernel_rfl) (fun _ => none) (fun i j => i != j) (by kernel_rfl) (by kernel_rfl) (PairG r2 b r2 (r2 + 1) bp bp p p w3) (PairR 3 4 b r2 (r2 + 1)) (LikeF b r2 (r2 + 1) p) rfl (PairG.drew ⟨HS2.out, Below.refl _ _, by omega, ⟨_, HR22.out⟩, ⟨_, HR32.out⟩, HP2.out, HP2.out⟩ HA.out) ?_ ?_ ?_
  · intro i j v w4 w5 hi hj hkp hf hR
    have hne : i ≠ j := by simpa using hkp
    obtain ⟨k, hk, hg⟩ := hR
    have hA := HA.out
    unfold LikeF at hf ⊢
    split at hf <;> first | exact hf | trivial | skip
    · refine atB_grown hf hg ?_
      rcases hk with rfl | ⟨rfl, rfl⟩ | ⟨rfl, rfl⟩
      · exact hA.r2b
      · exact absurd rfl hne
      · exact hA.r23
    · obtain ⟨q, hq, hf⟩ := hf
      refine ⟨q, hq, atB_grown hf hg ?_⟩
      rcases hk with rfl | ⟨rfl, rfl⟩ | ⟨rfl, rfl⟩
      · exact hA.r3b
      · exact fun e => hA.r23 e.symm
      · exact absurd rfl hne
  · intro i o ho
    match i, ho with
    | 0, ho =>
      cases ho
      intro ev w' hc hfn hb hG hd
      have h2 : ev (.tmp 5) = .pointer (some ⟨bp, 0, none⟩) := hb 5 (by simp)
      obtain ⟨c0, c1, c2, c3, c4⟩ := hG.atp
      refine stepTo_gen fun K' hK => ?_
      simp [go_sem, stepTo, hc, hfn, h2, c0, c1, c2, c3, c4]
      exact hK _ _ ⟨hG, PairR.same _, (fun h => by cases h), rfl⟩
    | 1, ho =>
      cases ho
      intro ev w' hc hfn hb hG hd
      have h2 : ev (.tmp 4) = .pointer (some ⟨b, 0, none⟩) := hb 4 (by simp)
      refine stepTo_gen fun K' hK => ?_
      simp [go_sem, stepTo, hc, hfn, h2]
      exact hK _ _ ⟨hG, PairR.same _, (fun h => by cases h), rfl⟩
    | 2, ho =>
      cases ho
      intro ev w' hc hfn hb hG hd
      have h3 : ev (.tmp 11) = .pointer (some ⟨b, 0, none⟩) := hd { on := 1, ground := .data } (by simp) rfl rfl _ rfl
      refine stepTo_gen fun K' hK => ?_
      simp [go_sem, stepTo, hc, hfn, h3]
      refine (specDraw4_any r2 b w' hG.src).mono ?_; rintro e w5 ⟨q, rfl, hq, hS, hg⟩
      exact ⟨_, rfl, hK _ _ ⟨hG.next HA.out hS hg, ⟨b, .inl rfl, hg⟩, (fun h => by cases h), q, rfl, hq⟩⟩
    | 3, ho =>
      cases ho
      intro ev w' hc hfn hb hG hd
      have h2 : ev (.tmp 2) = .pointer (some ⟨r2, 0, none⟩) := hb 2 (by simp)
      have h26 : ev (.tmp 10) = .agg #[.int .i64 p.num, .string p.fst, .string p.lst, .int .i64 p.born, .int .i64 p.zone] := hd { on := 0, ground := .data } (by simp) rfl rfl _ rfl
      obtain ⟨f, hr⟩ := hG.row2
      have c0 := hr.cell (show 0 < 5 by omega); have c1 := hr.cell (show 1 < 5 by omega); have c2 := hr.cell (show 2 < 5 by omega); have c3 := hr.cell (show 3 < 5 by omega); have c4 := hr.cell (show 4 < 5 by omega)
      have f0 := hr.frozen 0; have f1 := hr.frozen 1; have f2 := hr.frozen 2; have f3 := hr.frozen 3; have f4 := hr.frozen 4
      refine stepTo_gen fun K' hK => ?_
      simp [go_sem, stepTo, hc, hfn, h2, h26, c0, c1, c2, c3, c4, f0, f1, f2, f3, f4]
      exact hK _ _ ⟨hG.put2 HA.out p, ⟨r2, .inr (.inl ⟨rfl, rfl⟩), putP_grown _ _ _⟩, (fun _ => rfl), (putP_row hr p).2⟩
    | 4, ho =>
      cases ho
      intro ev w' hc hfn hb hG hd
      have h2 : ev (.tmp 3) = .pointer (some ⟨r2 + 1, 0, none⟩) := hb 3 (by simp)
      obtain ⟨q, h26, hq⟩ : ∃ q : Pers, ev (.tmp 12) = .agg #[.int .i64 q.num, .string q.fst, .string q.lst, .int .i64 q.born, .int .i64 q.zone] ∧ Small q := hd { on := 2, ground := .data } (by simp) rfl rfl _ rfl
      obtain ⟨f, hr⟩ := hG.row3
      have c0 := hr.cell (show 0 < 5 by omega); have c1 := hr.cell (show 1 < 5 by omega); have c2 := hr.cell (show 2 < 5 by omega); have c3 := hr.cell (show 3 < 5 by omega); have c4 := hr.cell (show 4 < 5 by omega)
      have f0 := hr.frozen 0; have f1 := hr.frozen 1; have f2 := hr.frozen 2; have f3 := hr.frozen 3; have f4 := hr.frozen 4
      refine stepTo_gen fun K' hK => ?_
      simp [go_sem, stepTo, hc, hfn, h2, h26, c0, c1, c2, c3, c4, f0, f1, f2, f3, f4]
      exact hK _ _ ⟨hG.put3 HA.out q, ⟨r2 + 1, .inr (.inr ⟨rfl, rfl⟩), putP_grown _ _ _⟩, (fun _ => rfl), q, hq, (putP_row hr q).2⟩
    | n + 5, ho => simp at ho
  · intro a w' hb hs hdf hG hf
    have hA2 : AtB w' r2 p := hf 3 _ rfl rfl
    obtain ⟨q, hq, hA3⟩ : ∃ q : Pers, Small q ∧ AtB w' (r2 + 1) q := hf 4 _ rfl rfl
    have h2 := hb 2 (by simp); have h3 := hb 3 (by simp)
    obtain ⟨tmps, dfs⟩ := a
    simp only at hdf
    subst hdf
    have h2' : tmps.getD 2 undef = .pointer (some ⟨r2, 0, none⟩) := h2
    have h3' : tmps.getD 3 undef = .pointer (some ⟨r2 + 1, 0, none⟩) := h3
    have HX := Lib.hid (show Below w.heap.size w w' by rw [HW.out]; exact HB2.out.trans hG.below)
    clear hf hb h2 h3 hs hG
    obtain ⟨c0, c1, c2, c3, c4⟩ := hA2
    obtain ⟨d0, d1, d2, d3, d4⟩ := hA3
    go_wp2_with fail
    (try simp only [Exit.inBlock, Exit.then])
    refine bodyPost_ret (v := .tuple #[.agg #[.int .i64 p.num, .string p.fst, .string p.lst, .int .i64 p.born, .int .i64 p.zone], .agg #[.int .i64 q.num, .string q.fst, .string q.lst, .int .i64 q.born, .int .i64 q.zone]]) ?_ rfl ⟨p, q, rfl, HP.out, hq, HX.out⟩
    rw [results_cells2 rfl]
    simp only [h2', h3']
    go_simp

set_option maxRecDepth 100000 in
set_option maxHeartbeats 2000000 in
theorem specDrawAreAlike_any (a : Option Addr) (len cap : Nat) (bs : List Int) (w : World) (hl : bs.length = len) (hm : len ≤ 4096) (h : BytesAt w.heap.size w a bs) :
    Calls Try.prog 11 #[.slice a len cap] w (DrewPPI w) := by
  have hsz1 : (w.alloc (.cells #[.int .i64 0, .string ⟨#[]⟩, .string ⟨#[]⟩, .int .i64 0, .int .i64 0] 25)).heap.size = w.heap.size + 1 := by simp
  have hsz2 : ((w.alloc (.cells #[.int .i64 0, .string ⟨#[]⟩, .string ⟨#[]⟩, .int .i64 0, .int .i64 0] 25)).alloc (.cells #[.int .i64 0, .string ⟨#[]⟩, .string ⟨#[]⟩, .int .i64 0, .int .i64 0] 25)).heap.size = w.heap.size + 2 := by simp
  have HB0 := Lib.hid (show Below w.heap.size w ((w.alloc (.cells #[.int .i64 0, .string ⟨#[]⟩, .string ⟨#[]⟩, .int .i64 0, .int .i64 0] 25)).alloc (.cells #[.int .i64 0, .string ⟨#[]⟩, .string ⟨#[]⟩, .int .i64 0, .int .i64 0] 25)) from ((Below.refl _ _).alloc (Nat.le_refl _) _).alloc (by omega) _)
  have HF := Lib.hid (specFrom_low w.heap.size a len cap bs ((w.alloc (.cells #[.int .i64 0, .string ⟨#[]⟩, .string ⟨#[]⟩, .int .i64 0, .int .i64 0] 25)).alloc (.cells #[.int .i64 0, .string ⟨#[]⟩, .string ⟨#[]⟩, .int .i64 0, .int .i64 0] 25)) hl hm (by omega) (h.below HB0.out))
  have HR2 := Lib.hid ((row_box w ⟨0, ⟨#[]⟩, ⟨#[]⟩, 0, 0⟩ 25).alloc (.cells #[.int .i64 0, .string ⟨#[]⟩, .string ⟨#[]⟩, .int .i64 0, .int .i64 0] 25))
  have HR3 := Lib.hid (show ((w.alloc (.cells #[.int .i64 0, .string ⟨#[]⟩, .string ⟨#[]⟩, .int .i64 0, .int .i64 0] 25)).alloc (.cells #[.int .i64 0, .string ⟨#[]⟩, .string ⟨#[]⟩, .int .i64 0, .int .i64 0] 25)).rowIs (w.heap.size + 1) 25 5 (cellF ⟨0, ⟨#[]⟩, ⟨#[]⟩, 0, 0⟩) by have := row_box (w.alloc (.cells #[.int .i64 0, .string ⟨#[]⟩, .string ⟨#[]⟩, .int .i64 0, .int .i64 0] 25)) ⟨0, ⟨#[]⟩, ⟨#[]⟩, 0, 0⟩ 25; rw [hsz1] at this; exact this)
  have HH := Lib.hid h; have HL := Lib.hid hl
  clear h hl
  go_enter Try.func11, Try.ntmps11
  go_wp2_with fail
  refine HF.out.mono ?_; rintro e w1 ⟨b, rfl, hS, hbB, hB⟩
  rw [hsz2] at hbB hB
  have HR21 := Lib.hid (row_later HR2.out (by rw [hsz2]; exact hB)); have HR31 := Lib.hid (row_later HR3.out (by rw [hsz2]; exact hB))
  have hz1 : w.heap.size + 2 ≤ w1.heap.size := by have := hB.size; rw [hsz2] at this; exact this
  have hlt1 := hS.lt
  have HB1 := Lib.hid (HB0.out.trans (hB.mono (by omega))); have HS1 := Lib.hid hS
  clear hS hB HB0 HF HR2 HR3
  go_wp2_with fail
  refine (specDrawLikenessOf_any a len cap bs w1 HL.out hm (HH.out.later HB1.out)).mono ?_; rintro e w2 ⟨p, q, rfl, hp, hq, hB⟩
  have HP := Lib.hid hp; have HQ := Lib.hid hq; have hz2 : w1.heap.size ≤ w2.heap.size := hB.size
  have HR22 := Lib.hid (((row_later HR21.out hB).alloc (.cells #[.int .i64 p.num, .string p.fst, .string p.lst, .int .i64 p.born, .int .i64 p.zone] 25)).alloc (.cells #[.int .i64 q.num, .string q.fst, .string q.lst, .int .i64 q.born, .int .i64 q.zone] 25)); have HR32 := Lib.hid (((row_later HR31.out hB).alloc (.cells #[.int .i64 p.num, .string p.fst, .string p.lst, .int .i64 p.born, .int .i64 p.zone] 25)).alloc (.cells #[.int .i64 q.num, .string q.fst, .string q.lst, .int .i64 q.born, .int .i64 q.zone] 25))
  have HB2 := Lib.hid (((HB1.out.trans (hB.mono (by omega))).alloc (by omega) (.cells #[.int .i64 p.num, .string p.fst, .string p.lst, .int .i64 p.born, .int .i64 p.zone] 25)).alloc (by simp; omega) (.cells #[.int .i64 q.num, .string q.fst, .string q.lst, .int .i64 q.born, .int .i64 q.zone] 25)); have HS2 := Lib.hid (((src_later HS1.out hB).alloc (.cells #[.int .i64 p.num, .string p.fst, .string p.lst, .int .i64 p.born, .int .i64 p.zone] 25)).alloc (.cells #[.int .i64 q.num, .string q.fst, .string q.lst, .int .i64 q.born, .int .i64 q.zone] 25))
  have HP2 := Lib.hid ((atB_box w2 p.num p.fst p.lst p.born p.zone 25).below (boxed (w2.alloc (.cells #[.int .i64 p.num, .string p.fst, .string p.lst, .int .i64 p.born, .int .i64 p.zone] 25)) (.cells #[.int .i64 q.num, .string q.fst, .string q.lst, .int .i64 q.born, .int .i64 q.zone] 25)))
  have hz3 : (w2.alloc (.cells #[.int .i64 p.num, .string p.fst, .string p.lst, .int .i64 p.born, .int .i64 p.zone] 25)).heap.size = w2.heap.size + 1 := by simp
  have hz4 : ((w2.alloc (.cells #[.int .i64 p.num, .string p.fst, .string p.lst, .int .i64 p.born, .int .i64 p.zone] 25)).alloc (.cells #[.int .i64 q.num, .string q.fst, .string q.lst, .int .i64 q.born, .int .i64 q.zone] 25)).heap.size = w2.heap.size + 2 := by simp
  have HQ2 := Lib.hid (show AtB ((w2.alloc (.cells #[.int .i64 p.num, .string p.fst, .string p.lst, .int .i64 p.born, .int .i64 p.zone] 25)).alloc (.cells #[.int .i64 q.num, .string q.fst, .string q.lst, .int .i64 q.born, .int .i64 q.zone] 25)) (w2.heap.size + 1) q by have := atB_box (w2.alloc (.cells #[.int .i64 p.num, .string p.fst, .string p.lst, .int .i64 p.born, .int .i64 p.zone] 25)) q.num q.fst q.lst q.born q.zone 25; rw [hz3] at this; exact this)
  clear hp hq hB HR21 HR31 HS1 HB1
  go_wp2_with fail
  generalize (w2.alloc (.cells #[.int .i64 p.num, .string p.fst, .string p.lst, .int .i64 p.born, .int .i64 p.zone] 25)).alloc (.cells #[.int .i64 q.num, .string q.fst, .string q.lst, .int .i64 q.born, .int .i64 q.zone] 25) = w3 at HR22 HR32 HB2 HS2 HP2 HQ2 hz4 ⊢
  obtain ⟨bp, hbp⟩ : ∃ bp, w2.heap.size = bp := ⟨_, rfl⟩
  rw [hbp] at HP2 HQ2 hz2 hz4 ⊢
  obtain ⟨r2, hr2⟩ : ∃ r2, w.heap.size = r2 := ⟨_, rfl⟩
  have HW := Lib.hid hr2
  rw [hr2] at HR22 HR32 HB2 HS2 hbB hz1 ⊢
  have HA := Lib.hid (show Apart r2 b r2 (r2 + 1) bp (bp + 1) from ⟨by omega, by omega, by omega, by omega, by omega, by omega, by omega, by omega, by omega, by omega, by omega, by omega⟩)
  clear hsz1 hsz2 hz3 hbp hr2
  refine wp_region_facts2 (sz := 20) [2, 3, 5, 6, 7] (by kernel_rfl) (by kernel_rfl) (by kernel_rfl) (fun _ => none) (fun i j => i != j) (by kernel_rfl) (by kernel_rfl) (PairG r2 b r2 (r2 + 1) bp (bp + 1) p q w3) (PairR 5 6 b r2 (r2 + 1)) (AlikeF b r2 (r2 + 1) p q) rfl (PairG.drew ⟨HS2.out, Below.refl _ _, by omega, ⟨_, HR22.out⟩, ⟨_, HR32.out⟩, HP2.out, HQ2.out⟩ HA.out) ?_ ?_ ?_
  · intro i j v w4 w5 hi hj hkp hf hR
    have hne : i ≠ j := by simpa using hkp
    obtain ⟨k, hk, hg⟩ := hR
    have hA := HA.out
    unfold AlikeF at hf ⊢
    split at hf <;> first | exact hf | trivial | skip
    · obtain ⟨g, e, g1, g2, g3, hz⟩ := hf
      exact ⟨g, e, g1, g2, g3, fun i x hx => hg.cell (hz i x hx) (fun e => by
        have e := Option.some.inj e
        rcases hk with rfl | ⟨rfl, rfl⟩ | ⟨rfl, rfl⟩
        · exact g1 e
        · exact g2 e
        · exact g3 e)⟩
    · refine atB_grown hf hg ?_
      rcases hk with rfl | ⟨rfl, rfl⟩ | ⟨rfl, rfl⟩
      · exact hA.r2b
      · exact absurd rfl hne
      · exact hA.r23
    · refine atB_grown hf hg ?_
      rcases hk with rfl | ⟨rfl, rfl⟩ | ⟨rfl, rfl⟩
      · exact hA.r3b
      · exact fun e => hA.r23 e.symm
      · exact absurd rfl hne
  · intro i o ho
    match i, ho with
    | 0, ho =>
      cases ho
      intro ev w' hc hfn hb hG hd
      have h2 : ev (.tmp 6) = .pointer (some ⟨bp, 0, none⟩) := hb 6 (by simp)
      obtain ⟨c0, c1, c2, c3, c4⟩ := hG.atp
      refine stepTo_gen fun K' hK => ?_
      simp [go_sem, stepTo, hc, hfn, h2, c0, c1, c2, c3, c4]
      exact hK _ _ ⟨hG, PairR.same _, (fun h => by cases h), rfl⟩
    | 1, ho =>
      cases ho
      intro ev w' hc hfn hb hG hd
      have h2 : ev (.tmp 7) = .pointer (some ⟨bp + 1, 0, none⟩) := hb 7 (by simp)
      obtain ⟨c0, c1, c2, c3, c4⟩ := hG.atq
      refine stepTo_gen fun K' hK => ?_
      simp [go_sem, stepTo, hc, hfn, h2, c0, c1, c2, c3, c4]
      exact hK _ _ ⟨hG, PairR.same _, (fun h => by cases h), rfl⟩
    | 2, ho =>
      cases ho
      intro ev w' hc hfn hb hG hd
      have h2 : ev (.tmp 5) = .pointer (some ⟨b, 0, none⟩) := hb 5 (by simp)
      refine stepTo_gen fun K' hK => ?_
      simp [go_sem, stepTo, hc, hfn, h2]
      exact hK _ _ ⟨hG, PairR.same _, (fun h => by cases h), rfl⟩
    | 3, ho =>
      cases ho
      intro ev w' hc hfn hb hG hd
      have hlt := hG.src.lt
      obtain ⟨f2, hr2⟩ := hG.row2; obtain ⟨f3, hr3⟩ := hG.row3
      have l2 := hr2.lt; have l3 := hr3.lt
      refine stepTo_gen fun K' hK => ?_
      simp [go_sem, stepTo, hc, hfn]
      exact hK _ _ ⟨hG.alloc HA.out _, ⟨b, .inl rfl, grown_alloc _ _ _⟩, (fun h => by cases h), w'.heap.size, rfl, by omega, by omega, by omega, alloc_ints w' _ zs8⟩
    | 4, ho =>
      cases ho
      intro ev w' hc hfn hb hG hd
      have h3 : ev (.tmp 17) = .pointer (some ⟨b, 0, none⟩) := hd { on := 2, ground := .data } (by simp) rfl rfl _ rfl
      obtain ⟨g, h4, g1, g2, g3, hz⟩ : ∃ g, ev (.tmp 18) = .slice (some ⟨g, 0, none⟩) 8 8 ∧ g ≠ b ∧ g ≠ r2 ∧ g ≠ r2 + 1 ∧ ∀ i x, zs8[i]? = some x → w'.cell? ⟨g, i, none⟩ = some (.int .i64 x) := hd { on := 3, ground := .data } (by simp) rfl rfl _ rfl
      refine stepTo_gen fun K' hK => ?_
      simp [go_sem, stepTo, hc, hfn, h3, h4]
      refine (specPick_any r2 b g zs8 8 8 w' rfl (by omega) (by omega) hG.src g1 hz).mono ?_; rintro e w5 ⟨x, rfl, _, hS, hg⟩
      exact ⟨_, rfl, hK _ _ ⟨hG.next HA.out hS hg, ⟨b, .inl rfl, hg⟩, (fun h => by cases h), x, rfl⟩⟩
    | 5, ho =>
      cases ho
      intro ev w' hc hfn hb hG hd
      have h2 : ev (.tmp 2) = .pointer (some ⟨r2, 0, none⟩) := hb 2 (by simp)
      have h26 : ev (.tmp 15) = .agg #[.int .i64 p.num, .string p.fst, .string p.lst, .int .i64 p.born, .int .i64 p.zone] := hd { on := 0, ground := .data } (by simp) rfl rfl _ rfl
      obtain ⟨f, hr⟩ := hG.row2
      have c0 := hr.cell (show 0 < 5 by omega); have c1 := hr.cell (show 1 < 5 by omega); have c2 := hr.cell (show 2 < 5 by omega); have c3 := hr.cell (show 3 < 5 by omega); have c4 := hr.cell (show 4 < 5 by omega)
      have f0 := hr.frozen 0; have f1 := hr.frozen 1; have f2 := hr.frozen 2; have f3 := hr.frozen 3; have f4 := hr.frozen 4
      refine stepTo_gen fun K' hK => ?_
      simp [go_sem, stepTo, hc, hfn, h2, h26, c0, c1, c2, c3, c4, f0, f1, f2, f3, f4]
      exact hK _ _ ⟨hG.put2 HA.out p, ⟨r2, .inr (.inl ⟨rfl, rfl⟩), putP_grown _ _ _⟩, (fun _ => rfl), (putP_row hr p).2⟩
    | 6, ho =>
      cases ho
      intro ev w' hc hfn hb hG hd
      have h2 : ev (.tmp 3) = .pointer (some ⟨r2 + 1, 0, none⟩) := hb 3 (by simp)
      have h26 : ev (.tmp 16) = .agg #[.int .i64 q.num, .string q.fst, .string q.lst, .int .i64 q.born, .int .i64 q.zone] := hd { on := 1, ground := .data } (by simp) rfl rfl _ rfl
      obtain ⟨f, hr⟩ := hG.row3
      have c0 := hr.cell (show 0 < 5 by omega); have c1 := hr.cell (show 1 < 5 by omega); have c2 := hr.cell (show 2 < 5 by omega); have c3 := hr.cell (show 3 < 5 by omega); have c4 := hr.cell (show 4 < 5 by omega)
      have f0 := hr.frozen 0; have f1 := hr.frozen 1; have f2 := hr.frozen 2; have f3 := hr.frozen 3; have f4 := hr.frozen 4
      refine stepTo_gen fun K' hK => ?_
      simp [go_sem, stepTo, hc, hfn, h2, h26, c0, c1, c2, c3, c4, f0, f1, f2, f3, f4]
      exact hK _ _ ⟨hG.put3 HA.out q, ⟨r2 + 1, .inr (.inr ⟨rfl, rfl⟩), putP_grown _ _ _⟩, (fun _ => rfl), (putP_row hr q).2⟩
    | 7, ho =>
      cases ho
      intro ev w' hc hfn hb hG hd
      obtain ⟨x, h3⟩ : ∃ x, ev (.tmp 19) = .int .i64 x := hd { on := 4, ground := .data } (by simp) rfl rfl _ rfl
      refine stepTo_gen fun K' hK => ?_
      simp [go_sem, stepTo, hc, hfn, h3]
      exact hK _ _ ⟨hG, PairR.same _, (fun h => by cases h), x, rfl⟩
    | n + 8, ho => simp at ho
  · intro a w' hb hs hdf hG hf
    have hA2 : AtB w' r2 p := hf 5 _ rfl rfl
    have hA3 : AtB w' (r2 + 1) q := hf 6 _ rfl rfl
    obtain ⟨x, h4⟩ : ∃ x, a.eval (.tmp 4) = .int .i64 x := hf 7 _ rfl rfl
    have h2 := hb 2 (by simp); have h3 := hb 3 (by simp)
    obtain ⟨tmps, dfs⟩ := a
    simp only at hdf
    subst hdf
    have h2' : tmps.getD 2 undef = .pointer (some ⟨r2, 0, none⟩) := h2
    have h3' : tmps.getD 3 undef = .pointer (some ⟨r2 + 1, 0, none⟩) := h3
    have h4' : tmps.getD 4 undef = .int .i64 x := h4
    have HX := Lib.hid (show Below w.heap.size w w' by rw [HW.out]; exact HB2.out.trans hG.below)
    clear hf hb h2 h3 h4 hs hG
    obtain ⟨c0, c1, c2, c3, c4⟩ := hA2
    obtain ⟨d0, d1, d2, d3, d4⟩ := hA3
    go_wp2_with fail
    (try simp only [Exit.inBlock, Exit.then])
    refine bodyPost_ret (v := .tuple #[.agg #[.int .i64 p.num, .string p.fst, .string p.lst, .int .i64 p.born, .int .i64 p.zone], .agg #[.int .i64 q.num, .string q.fst, .string q.lst, .int .i64 q.born, .int .i64 q.zone], .int .i64 x]) ?_ rfl ⟨p, q, x, rfl, HP.out, HQ.out, HX.out⟩
    rw [results_cells3 rfl]
    simp only [h2', h3', h4']
    go_simp

end Go.Proofs.Ytlaeceglcmnhbaa
