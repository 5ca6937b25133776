/- Contracts: the drawing functions of chapter 6. -/
import Derived.Test.YtjnjmoiilapbiaaChecked
import Derived.Test.YtjnjmoiilapbiaaBase
import Derived.Test.YtjnjmoiilapbiaaPure40
import Derived.Test.YtjnjmoiilapbiaaPure6
import Derived.Test.YtjnjmoiilapbiaaPure61
import Derived.Test.YtjnjmoiilapbiaaNext
import Derived.Test.YtjnjmoiilapbiaaPick
import Derived.Test.YtjnjmoiilapbiaaDrawW
import Derived.Test.YtjnjmoiilapbiaaPersLaw
import Derived.Test.YtjnjmoiilapbiaaGood4
import Derived.Test.YtjnjmoiilapbiaaDraw4
import Derived.Test.YtjnjmoiilapbiaaTruth6
import Derived.Test.YtjnjmoiilapbiaaRulLaw6
import Derived.Test.YtjnjmoiilapbiaaFrom
import Derived.Test.YtjnjmoiilapbiaaFromB
import Derived.Test.YtjnjmoiilapbiaaFacts2
import Derived.Test.YtjnjmoiilapbiaaDrawR6
import Derived.Test.YtjnjmoiilapbiaaDrawC6
import Derived.Test.YtjnjmoiilapbiaaList6
import Derived.Test.YtjnjmoiilapbiaaTruth6
import Derived.Test.YtjnjmoiilapbiaaCandLaw6
import Derived.RegionTactic
import Derived.WalkKit
import Derived.WalkSpells
import Derived.WalkLawsBesides
import Derived.Lib.Hide
import Derived.IntWalk
import Derived.Outline
namespace Go.Proofs.Ytjnjmoiilapbiaa
open Go.RowKit Pure1 Pure2 Pure6 Pure40 Pure61

theorem results_cells2 {fn : Func} {p u : Tmp} {ty ty2 : TypeId} (h : fn.results = #[.cell p ty, .cell u ty2]) (tmps : Array Value) (P : Program) (w : World) :
    (results fn tmps).run P w = ((asAddr (tmps.getD p undef)).run P w).andThen fun a w₁ => ((loadVar ty a).run P w₁).andThen fun v w₂ => ((asAddr (tmps.getD u undef)).run P w₂).andThen fun a2 w₃ => ((loadVar ty2 a2).run P w₃).andThen fun v2 w₄ => .ok (.tuple #[v, v2]) w₄ := by
  simp only [results, h]
  simp [Sem.run_bind, Result.andThen]
theorem results_cell_tmp {fn : Func} {p u : Tmp} {ty : TypeId} (h : fn.results = #[.cell p ty, .tmp u]) (tmps : Array Value) (P : Program) (w : World) :
    (results fn tmps).run P w = ((asAddr (tmps.getD p undef)).run P w).andThen fun a w₁ => ((loadVar ty a).run P w₁).andThen fun v w₂ => .ok (.tuple #[v, tmps.getD u undef]) w₂ := by
  simp only [results, h]
  simp [Sem.run_bind, Result.andThen]
theorem row_later {w w' : World} {b n : Nat} {T : TypeId} {f : Nat → Value} (h : w.rowIs b T n f) (hb : Below w.heap.size w w') : w'.rowIs b T n f := h.of_block (hb.block b h.lt)
theorem grown_refl (w : World) (r : Option Nat) : w.grownBy w r := ⟨rfl, rfl, rfl, Nat.le_refl _, fun _ _ _ => rfl⟩
/-- values stored in a row -/
def putL (w : World) (r k : Nat) : List Value → World
  | [] => w
  | v :: vs => putL (w.setCell ⟨r, k, none⟩ v) r (k + 1) vs
theorem putL_grown (vs : List Value) : ∀ (w : World) (r k : Nat), w.grownBy (putL w r k vs) (some r) := by
  induction vs with
  | nil => intro w r k; exact grown_refl _ _
  | cons v vs ih => intro w r k; exact grown_trans (grown_cell w r k v) (ih _ _ _)
theorem putL_row (vs : List Value) : ∀ {w : World} {r k n : Nat} {T : TypeId} {f : Nat → Value}, w.rowIs r T n f → ∃ f', (putL w r k vs).rowIs r T n f' ∧ (∀ i, i < k → f' i = f i) ∧ ∀ i v, vs[i]? = some v → f' (k + i) = v := by
  induction vs with
  | nil => intro w r k n T f h; exact ⟨f, h, fun _ _ => rfl, fun i v hv => by simp at hv⟩
  | cons v vs ih =>
    intro w r k n T f h
    obtain ⟨f', h1, h2, h3⟩ := ih (k := k + 1) (h.set k v)
    refine ⟨f', h1, fun i hi => ?_, fun i u hu => ?_⟩
    · rw [h2 i (by omega)]; simp [Nat.ne_of_lt hi]
    · cases i with
      | zero => rw [Nat.add_zero, h2 k (by omega)]; simp at hu ⊢; exact hu
      | succ i => rw [show k + (i + 1) = k + 1 + i by omega]; exact h3 i u (by simpa using hu)
theorem AtR.grown {w w' : World} {b k : Nat} {y l m : Int} {za : Option Addr} {zl zc : Nat} {ja : Option Addr} {jl jc : Nat} (h : AtR w b y l m za zl zc ja jl jc) (hg : w.grownBy w' (some k)) (hne : b ≠ k) : AtR w' b y l m za zl zc ja jl jc :=
  ⟨hg.cell h.1 (fun e => hne (Option.some.inj e)), hg.cell h.2.1 (fun e => hne (Option.some.inj e)), hg.cell h.2.2.1 (fun e => hne (Option.some.inj e)), hg.cell h.2.2.2.1 (fun e => hne (Option.some.inj e)), hg.cell h.2.2.2.2 (fun e => hne (Option.some.inj e))⟩
theorem AtD.grown {w w' : World} {b k : Nat} {c : Cand} (h : AtD w b c) (hg : w.grownBy w' (some k)) (hne : b ≠ k) : AtD w' b c :=
  ⟨hg.cell h.1 (fun e => hne (Option.some.inj e)), hg.cell h.2.1 (fun e => hne (Option.some.inj e)), hg.cell h.2.2.1 (fun e => hne (Option.some.inj e)), hg.cell h.2.2.2.1 (fun e => hne (Option.some.inj e)), hg.cell h.2.2.2.2.1 (fun e => hne (Option.some.inj e)), hg.cell h.2.2.2.2.2.1 (fun e => hne (Option.some.inj e)), hg.cell h.2.2.2.2.2.2.1 (fun e => hne (Option.some.inj e)), hg.cell h.2.2.2.2.2.2.2.1 (fun e => hne (Option.some.inj e)), hg.cell h.2.2.2.2.2.2.2.2 (fun e => hne (Option.some.inj e))⟩
theorem putR_row {w : World} {r : Nat} {T : TypeId} {f : Nat → Value} (h : w.rowIs r T 5 f) (y l m : Int) (za : Option Addr) (zl zc : Nat) (ja : Option Addr) (jl jc : Nat) : (∃ f', (putL w r 0 [.int .i64 y, .int .i64 l, .int .i64 m, .slice za zl zc, .slice ja jl jc]).rowIs r T 5 f') ∧ AtR (putL w r 0 [.int .i64 y, .int .i64 l, .int .i64 m, .slice za zl zc, .slice ja jl jc]) r y l m za zl zc ja jl jc := by
  obtain ⟨f', h1, _, h3⟩ := putL_row [.int .i64 y, .int .i64 l, .int .i64 m, .slice za zl zc, .slice ja jl jc] (k := 0) h
  exact ⟨⟨f', h1⟩, (by rw [h1.cell (show 0 < 5 by omega)]; exact congrArg some (h3 0 _ rfl)), (by rw [h1.cell (show 1 < 5 by omega)]; exact congrArg some (h3 1 _ rfl)), (by rw [h1.cell (show 2 < 5 by omega)]; exact congrArg some (h3 2 _ rfl)), (by rw [h1.cell (show 3 < 5 by omega)]; exact congrArg some (h3 3 _ rfl)), (by rw [h1.cell (show 4 < 5 by omega)]; exact congrArg some (h3 4 _ rfl))⟩
theorem putC_row {w : World} {r : Nat} {T : TypeId} {f : Nat → Value} (h : w.rowIs r T 9 f) (c : Cand) : (∃ f', (putL w r 0 [.int .i64 c.p.num, .string c.p.fst, .string c.p.lst, .int .i64 c.p.born, .int .i64 c.p.zone, .bool c.cit, .bool c.con, .bool c.flu, .int .i64 c.job]).rowIs r T 9 f') ∧ AtD (putL w r 0 [.int .i64 c.p.num, .string c.p.fst, .string c.p.lst, .int .i64 c.p.born, .int .i64 c.p.zone, .bool c.cit, .bool c.con, .bool c.flu, .int .i64 c.job]) r c := by
  obtain ⟨f', h1, _, h3⟩ := putL_row [.int .i64 c.p.num, .string c.p.fst, .string c.p.lst, .int .i64 c.p.born, .int .i64 c.p.zone, .bool c.cit, .bool c.con, .bool c.flu, .int .i64 c.job] (k := 0) h
  exact ⟨⟨f', h1⟩, (by rw [h1.cell (show 0 < 9 by omega)]; exact congrArg some (h3 0 _ rfl)), (by rw [h1.cell (show 1 < 9 by omega)]; exact congrArg some (h3 1 _ rfl)), (by rw [h1.cell (show 2 < 9 by omega)]; exact congrArg some (h3 2 _ rfl)), (by rw [h1.cell (show 3 < 9 by omega)]; exact congrArg some (h3 3 _ rfl)), (by rw [h1.cell (show 4 < 9 by omega)]; exact congrArg some (h3 4 _ rfl)), (by rw [h1.cell (show 5 < 9 by omega)]; exact congrArg some (h3 5 _ rfl)), (by rw [h1.cell (show 6 < 9 by omega)]; exact congrArg some (h3 6 _ rfl)), (by rw [h1.cell (show 7 < 9 by omega)]; exact congrArg some (h3 7 _ rfl)), (by rw [h1.cell (show 8 < 9 by omega)]; exact congrArg some (h3 8 _ rfl))⟩
/-- rules and a candidate are drawn -/
def DrewRC (w : World) (e : Ending) (w' : World) : Prop := ∃ (y l m : Int) (za : Option Addr) (zl zc : Nat) (ja : Option Addr) (jl jc : Nat) (zz jj : List Int) (c : Cand), e = .returned (.tuple #[.agg #[.int .i64 y, .int .i64 l, .int .i64 m, .slice za zl zc, .slice ja jl jc], .agg #[.int .i64 c.p.num, .string c.p.fst, .string c.p.lst, .int .i64 c.p.born, .int .i64 c.p.zone, .bool c.cit, .bool c.con, .bool c.flu, .int .i64 c.job]]) ∧ RulesUp w.heap.size w' za zl ja jl zz jj ∧ SmallC c ∧ Below w.heap.size w w'
/-- rules and a list of candidates are drawn -/
def DrewRCs (w : World) (e : Ending) (w' : World) : Prop := ∃ (y l m : Int) (za : Option Addr) (zl zc : Nat) (ja : Option Addr) (jl jc : Nat) (zz jj : List Int) (g cap : Nat) (cs : List Cand), e = .returned (.tuple #[.agg #[.int .i64 y, .int .i64 l, .int .i64 m, .slice za zl zc, .slice ja jl jc], .slice (some ⟨g, 0, none⟩) cs.length cap]) ∧ RulesUp w.heap.size w' za zl ja jl zz jj ∧ CandsAt w' (some ⟨g, 0, none⟩) cs ∧ cs.length ≤ 61 ∧ SmallCs cs ∧ Below w.heap.size w w'
/-- what holds while the answer is put together: the source b, the box bp of the rules, the answer's cells r2 and r3 -/
structure DrawG (r2 r3 b bp : Nat) (y l m : Int) (za : Option Addr) (zl zc : Nat) (ja : Option Addr) (jl jc : Nat) (zz jj : List Int) (w1 w : World) : Prop where
  src : Src r2 93 w b
  below : Below r2 w1 w
  sz : r2 ≤ w.heap.size
  row2 : ∃ f, w.rowIs r2 26 5 f
  row3 : ∃ f, w.rowIs r3 30 9 f
  box : AtR w bp y l m za zl zc ja jl jc
  up : RulesUp b w za zl ja jl zz jj
structure DrawA (r2 r3 b bp : Nat) : Prop where
  da : r2 < b
  db : b < bp
  dc : r2 ≠ r3
  dd : r3 ≠ b
  de : r2 ≤ r3
  df : r3 ≠ bp
  dg : r3 ≤ b
def DrawRel (r2 r3 b : Nat) (s2 s3 : Nat) (i : Nat) (w w' : World) : Prop := ∃ k, (k = b ∨ (i = s2 ∧ k = r2) ∨ (i = s3 ∧ k = r3)) ∧ w.grownBy w' (some k)
section
variable {r2 r3 b bp : Nat} {y l m : Int} {za : Option Addr} {zl zc : Nat} {ja : Option Addr} {jl jc : Nat} {zz jj : List Int} {w1 w w' : World}
theorem DrawG.next (h : DrawG r2 r3 b bp y l m za zl zc ja jl jc zz jj w1 w) (ha : DrawA r2 r3 b bp) (hs : Src r2 93 w' b) (hg : w.grownBy w' (some b)) : DrawG r2 r3 b bp y l m za zl zc ja jl jc zz jj w1 w' := by
  obtain ⟨f2, h2⟩ := h.row2; obtain ⟨f3, h3⟩ := h.row3
  obtain ⟨a1, a2, a3, a4, a5, a6, a7⟩ := ha
  exact ⟨hs, h.below.grown hg h.sz (fun k hk => by cases hk; omega), Nat.le_trans h.sz hg.size, ⟨f2, row_grown h2 hg (by omega)⟩, ⟨f3, row_grown h3 hg a4⟩, h.box.grown hg (by omega), h.up.grown hg (Nat.le_refl _)⟩
theorem DrawG.drew (h : DrawG r2 r3 b bp y l m za zl zc ja jl jc zz jj w1 w) (ha : DrawA r2 r3 b bp) : DrawG r2 r3 b bp y l m za zl zc ja jl jc zz jj w1 w.drew := by
  have hg : w.grownBy w.drew (some b) := ⟨rfl, rfl, rfl, Nat.le_refl _, fun _ _ _ => rfl⟩
  exact h.next ha (h.src.kept rfl (Below.drew (Below.refl _ _))) hg
theorem DrawG.put2 (h : DrawG r2 r3 b bp y l m za zl zc ja jl jc zz jj w1 w) (ha : DrawA r2 r3 b bp) : DrawG r2 r3 b bp y l m za zl zc ja jl jc zz jj w1 (putL w r2 0 [.int .i64 y, .int .i64 l, .int .i64 m, .slice za zl zc, .slice ja jl jc]) := by
  obtain ⟨f2, h2⟩ := h.row2; obtain ⟨f3, h3⟩ := h.row3
  obtain ⟨a1, a2, a3, a4, a5, a6, a7⟩ := ha
  have hg := putL_grown [.int .i64 y, .int .i64 l, .int .i64 m, .slice za zl zc, .slice ja jl jc] w r2 0
  exact ⟨h.src.kept (hg.block b h.src.lt (fun e => by have := Option.some.inj e; omega)) ((Below.refl r2 w).grown hg h.sz (fun k hk => by cases hk; omega)), h.below.grown hg h.sz (fun k hk => by cases hk; omega), Nat.le_trans h.sz hg.size, (putR_row h2 y l m za zl zc ja jl jc).1, ⟨f3, row_grown h3 hg (fun e => a3 e.symm)⟩, h.box.grown hg (by omega), h.up.grown hg (by omega)⟩
theorem DrawG.put3 (h : DrawG r2 r3 b bp y l m za zl zc ja jl jc zz jj w1 w) (ha : DrawA r2 r3 b bp) (c : Cand) : DrawG r2 r3 b bp y l m za zl zc ja jl jc zz jj w1 (putL w r3 0 [.int .i64 c.p.num, .string c.p.fst, .string c.p.lst, .int .i64 c.p.born, .int .i64 c.p.zone, .bool c.cit, .bool c.con, .bool c.flu, .int .i64 c.job]) := by
  obtain ⟨f2, h2⟩ := h.row2; obtain ⟨f3, h3⟩ := h.row3
  obtain ⟨a1, a2, a3, a4, a5, a6, a7⟩ := ha
  have hg := putL_grown [.int .i64 c.p.num, .string c.p.fst, .string c.p.lst, .int .i64 c.p.born, .int .i64 c.p.zone, .bool c.cit, .bool c.con, .bool c.flu, .int .i64 c.job] w r3 0
  exact ⟨h.src.kept (hg.block b h.src.lt (fun e => a4 (Option.some.inj e).symm)) ((Below.refl r2 w).grown hg h.sz (fun k hk => by cases hk; omega)), h.below.grown hg h.sz (fun k hk => by cases hk; omega), Nat.le_trans h.sz hg.size, ⟨f2, row_grown h2 hg a3⟩, (putC_row h3 c).1, h.box.grown hg (by omega), h.up.grown hg a7⟩
theorem DrawRel.same {s2 s3 i : Nat} (w : World) : DrawRel r2 r3 b s2 s3 i w w := ⟨b, .inl rfl, grown_refl _ _⟩
end
def RCF (r2 r3 b : Nat) (y l m : Int) (za : Option Addr) (zl zc : Nat) (ja : Option Addr) (jl jc : Nat) : Nat → Value → World → Prop
  | 0, v, _ => v = .agg #[.int .i64 y, .int .i64 l, .int .i64 m, .slice za zl zc, .slice ja jl jc]
  | 1, v, _ => v = .pointer (some ⟨b, 0, none⟩)
  | 2, v, _ => ∃ c : Cand, v = .agg #[.int .i64 c.p.num, .string c.p.fst, .string c.p.lst, .int .i64 c.p.born, .int .i64 c.p.zone, .bool c.cit, .bool c.con, .bool c.flu, .int .i64 c.job] ∧ SmallC c
  | 3, _, w => AtR w r2 y l m za zl zc ja jl jc
  | 4, _, w => ∃ c : Cand, SmallC c ∧ AtD w r3 c
  | _, _, _ => True

set_option maxRecDepth 100000 in
set_option maxHeartbeats 2000000 in
theorem specDrawRC_any (a : Option Addr) (len cap : Nat) (bs : List Int) (w : World) (hl : bs.length = len) (hm : len ≤ 4096) (h : BytesAt w.heap.size w a bs) :
    Calls Try.prog 11 #[.slice a len cap] w (DrewRC w) := by
  have hsz1 : (w.alloc (.cells #[.int .i64 0, .int .i64 0, .int .i64 0, .slice none 0 0, .slice none 0 0] 26)).heap.size = w.heap.size + 1 := by simp
  have hsz2 : ((w.alloc (.cells #[.int .i64 0, .int .i64 0, .int .i64 0, .slice none 0 0, .slice none 0 0] 26)).alloc (.cells #[.int .i64 0, .string ⟨#[]⟩, .string ⟨#[]⟩, .int .i64 0, .int .i64 0, .bool false, .bool false, .bool false, .int .i64 0] 30)).heap.size = w.heap.size + 2 := by simp
  have HB0 := Lib.hid (show Below w.heap.size w ((w.alloc (.cells #[.int .i64 0, .int .i64 0, .int .i64 0, .slice none 0 0, .slice none 0 0] 26)).alloc (.cells #[.int .i64 0, .string ⟨#[]⟩, .string ⟨#[]⟩, .int .i64 0, .int .i64 0, .bool false, .bool false, .bool false, .int .i64 0] 30)) from ((Below.refl _ _).alloc (Nat.le_refl _) _).alloc (by simp) _)
  have HF := Lib.hid (specFrom_low w.heap.size a len cap bs ((w.alloc (.cells #[.int .i64 0, .int .i64 0, .int .i64 0, .slice none 0 0, .slice none 0 0] 26)).alloc (.cells #[.int .i64 0, .string ⟨#[]⟩, .string ⟨#[]⟩, .int .i64 0, .int .i64 0, .bool false, .bool false, .bool false, .int .i64 0] 30)) hl hm (by omega) (h.below HB0.out))
  have HR2 := Lib.hid (row_later (World.rowIs_alloc w #[.int .i64 0, .int .i64 0, .int .i64 0, .slice none 0 0, .slice none 0 0] 26 (fun i => (#[Value.int .i64 0, .int .i64 0, .int .i64 0, .slice none 0 0, .slice none 0 0] : Array Value)[i]?.getD undef) (fun i hi => by rw [Array.getElem?_eq_getElem hi]; rfl)) (boxed (w.alloc (.cells #[.int .i64 0, .int .i64 0, .int .i64 0, .slice none 0 0, .slice none 0 0] 26)) (.cells #[.int .i64 0, .string ⟨#[]⟩, .string ⟨#[]⟩, .int .i64 0, .int .i64 0, .bool false, .bool false, .bool false, .int .i64 0] 30)))
  have HR3 := Lib.hid (show ((w.alloc (.cells #[.int .i64 0, .int .i64 0, .int .i64 0, .slice none 0 0, .slice none 0 0] 26)).alloc (.cells #[.int .i64 0, .string ⟨#[]⟩, .string ⟨#[]⟩, .int .i64 0, .int .i64 0, .bool false, .bool false, .bool false, .int .i64 0] 30)).rowIs (w.heap.size + 1) 30 9 _ by have := World.rowIs_alloc (w.alloc (.cells #[.int .i64 0, .int .i64 0, .int .i64 0, .slice none 0 0, .slice none 0 0] 26)) #[.int .i64 0, .string ⟨#[]⟩, .string ⟨#[]⟩, .int .i64 0, .int .i64 0, .bool false, .bool false, .bool false, .int .i64 0] 30 (fun i => (#[Value.int .i64 0, .string ⟨#[]⟩, .string ⟨#[]⟩, .int .i64 0, .int .i64 0, .bool false, .bool false, .bool false, .int .i64 0] : Array Value)[i]?.getD undef) (fun i hi => by rw [Array.getElem?_eq_getElem hi]; rfl); rw [hsz1] at this; exact this)
  clear h hl
  go_enter Try.func11, Try.ntmps11
  go_wp2_with fail
  refine HF.out.mono ?_; rintro e w1 ⟨b, rfl, hS, hbB, hB⟩
  rw [hsz2] at hbB hB
  have HR21 := Lib.hid (row_later HR2.out (by rw [hsz2]; exact hB)); have HR31 := Lib.hid (row_later HR3.out (by rw [hsz2]; exact hB))
  have hz1 : w.heap.size + 2 ≤ w1.heap.size := by have := hB.size; rw [hsz2] at this; exact this
  have HB1 := Lib.hid (HB0.out.trans (hB.mono (by omega))); have HS1 := Lib.hid hS
  clear hS hB HB0 HF HR2 HR3
  go_wp2_with fail
  refine (specRules6_any _ b w1 HS1.out).mono ?_; rintro e w2 ⟨y, l, m, za, zl, zc, ja, jl, jc, zz, jj, rfl, hu, hS, hg⟩
  have hlt2 := hS.lt; have hz2 : w1.heap.size ≤ w2.heap.size := hg.size
  have HR22 := Lib.hid (row_later (row_grown HR21.out hg (by omega)) (boxed w2 (.cells #[.int .i64 y, .int .i64 l, .int .i64 m, .slice za zl zc, .slice ja jl jc] 26))); have HR32 := Lib.hid (row_later (row_grown HR31.out hg (by omega)) (boxed w2 (.cells #[.int .i64 y, .int .i64 l, .int .i64 m, .slice za zl zc, .slice ja jl jc] 26)))
  have HB2 := Lib.hid ((HB1.out.trans (grown_below hg (by omega) (by omega))).alloc (by omega) (.cells #[.int .i64 y, .int .i64 l, .int .i64 m, .slice za zl zc, .slice ja jl jc] 26)); have HS2 := Lib.hid (hS.alloc (.cells #[.int .i64 y, .int .i64 l, .int .i64 m, .slice za zl zc, .slice ja jl jc] 26))
  have HP2 := Lib.hid (atR_box w2 y l m za zl zc ja jl jc 26); have HU2 := Lib.hid (hu.below (boxed w2 (.cells #[.int .i64 y, .int .i64 l, .int .i64 m, .slice za zl zc, .slice ja jl jc] 26)))
  have hz3 : (w2.alloc (.cells #[.int .i64 y, .int .i64 l, .int .i64 m, .slice za zl zc, .slice ja jl jc] 26)).heap.size = w2.heap.size + 1 := by simp
  clear hS hg hu HR21 HR31 HS1 HB1
  go_wp2_with fail
  generalize w2.alloc (.cells #[.int .i64 y, .int .i64 l, .int .i64 m, .slice za zl zc, .slice ja jl jc] 26) = w3 at HR22 HR32 HB2 HS2 HP2 HU2 hz3 ⊢
  obtain ⟨bp, hbp⟩ : ∃ bp, w2.heap.size = bp := ⟨_, rfl⟩
  rw [hbp] at HP2 hlt2 hz2 hz3 ⊢
  obtain ⟨r2, hr2⟩ : ∃ r2, w.heap.size = r2 := ⟨_, rfl⟩
  have HW := Lib.hid hr2
  rw [hr2] at HR22 HR32 HB2 HS2 hbB hz1 ⊢
  have HA := Lib.hid (show DrawA r2 (r2 + 1) b bp from ⟨by omega, by omega, by omega, by omega, by omega, by omega, by omega⟩)
  clear hsz1 hsz2 hbp hr2
  refine wp_region_facts2 (sz := 13) [2, 3, 4, 5] (by kernel_rfl) (by kernel_rfl) (by kernel_rfl) (fun _ => none) (fun i j => i != j) (by kernel_rfl) (by kernel_rfl) (DrawG r2 (r2 + 1) b bp y l m za zl zc ja jl jc zz jj w3) (DrawRel r2 (r2 + 1) b 3 4) (RCF r2 (r2 + 1) b y l m za zl zc ja jl jc) rfl (DrawG.drew ⟨HS2.out, Below.refl _ _, by omega, ⟨_, HR22.out⟩, ⟨_, HR32.out⟩, HP2.out, HU2.out⟩ HA.out) ?_ ?_ ?_
  · intro i j v w4 w5 hi hj hkp hf hR
    have hne : i ≠ j := by simpa using hkp
    obtain ⟨k, hk, hg⟩ := hR
    obtain ⟨a1, a2, a3, a4, a5, a6, a7⟩ := HA.out
    unfold RCF at hf ⊢
    split at hf <;> first | exact hf | trivial | skip
    · refine AtR.grown hf hg ?_
      rcases hk with rfl | ⟨rfl, rfl⟩ | ⟨rfl, rfl⟩
      · omega
      · exact absurd rfl hne
      · omega
    · obtain ⟨c, hq, hf⟩ := hf
      refine ⟨c, hq, AtD.grown hf hg ?_⟩
      rcases hk with rfl | ⟨rfl, rfl⟩ | ⟨rfl, rfl⟩
      · omega
      · omega
      · exact absurd rfl hne
  · intro i o ho
    match i, ho with
    | 0, ho =>
      cases ho
      intro ev w' hc hfn hb hG hd
      have h2 : ev (.tmp 5) = .pointer (some ⟨bp, 0, none⟩) := hb 5 (by simp)
      obtain ⟨c0, c1, c2, c3, c4⟩ := hG.box
      refine stepTo_gen fun K' hK => ?_
      simp [go_sem, stepTo, hc, hfn, h2, c0, c1, c2, c3, c4]
      exact hK _ _ ⟨hG, DrawRel.same _, (fun h => by cases h), rfl⟩
    | 1, ho =>
      cases ho
      intro ev w' hc hfn hb hG hd
      have h2 : ev (.tmp 4) = .pointer (some ⟨b, 0, none⟩) := hb 4 (by simp)
      refine stepTo_gen fun K' hK => ?_
      simp [go_sem, stepTo, hc, hfn, h2]
      exact hK _ _ ⟨hG, DrawRel.same _, (fun h => by cases h), rfl⟩
    | 2, ho =>
      cases ho
      intro ev w' hc hfn hb hG hd
      have h3 : ev (.tmp 11) = .pointer (some ⟨b, 0, none⟩) := hd { on := 1, ground := .data } (by simp) rfl rfl _ rfl
      refine stepTo_gen fun K' hK => ?_
      simp [go_sem, stepTo, hc, hfn, h3]
      refine (specCand6_any r2 b w' hG.src).mono ?_; rintro e w5 ⟨c, rfl, hq, hS, hg⟩
      exact ⟨_, rfl, hK _ _ ⟨hG.next HA.out hS hg, ⟨b, .inl rfl, hg⟩, (fun h => by cases h), c, rfl, hq⟩⟩
    | 3, ho =>
      cases ho
      intro ev w' hc hfn hb hG hd
      have h2 : ev (.tmp 2) = .pointer (some ⟨r2, 0, none⟩) := hb 2 (by simp)
      have h26 : ev (.tmp 10) = .agg #[.int .i64 y, .int .i64 l, .int .i64 m, .slice za zl zc, .slice ja jl jc] := hd { on := 0, ground := .data } (by simp) rfl rfl _ rfl
      obtain ⟨f, hr⟩ := hG.row2
      have k0 := hr.cell (show 0 < 5 by omega); have k1 := hr.cell (show 1 < 5 by omega); have k2 := hr.cell (show 2 < 5 by omega); have k3 := hr.cell (show 3 < 5 by omega); have k4 := hr.cell (show 4 < 5 by omega); have fk0 := hr.frozen 0; have fk1 := hr.frozen 1; have fk2 := hr.frozen 2; have fk3 := hr.frozen 3; have fk4 := hr.frozen 4
      refine stepTo_gen fun K' hK => ?_
      simp [go_sem, stepTo, hc, hfn, h2, h26, k0, k1, k2, k3, k4, fk0, fk1, fk2, fk3, fk4]
      exact hK _ _ ⟨hG.put2 HA.out, ⟨r2, .inr (.inl ⟨rfl, rfl⟩), putL_grown [.int .i64 y, .int .i64 l, .int .i64 m, .slice za zl zc, .slice ja jl jc] w' r2 0⟩, (fun _ => rfl), (putR_row hr y l m za zl zc ja jl jc).2⟩
    | 4, ho =>
      cases ho
      intro ev w' hc hfn hb hG hd
      have h2 : ev (.tmp 3) = .pointer (some ⟨r2 + 1, 0, none⟩) := hb 3 (by simp)
      obtain ⟨c, h26, hq⟩ : ∃ c : Cand, ev (.tmp 12) = .agg #[.int .i64 c.p.num, .string c.p.fst, .string c.p.lst, .int .i64 c.p.born, .int .i64 c.p.zone, .bool c.cit, .bool c.con, .bool c.flu, .int .i64 c.job] ∧ SmallC c := hd { on := 2, ground := .data } (by simp) rfl rfl _ rfl
      obtain ⟨f, hr⟩ := hG.row3
      have k0 := hr.cell (show 0 < 9 by omega); have k1 := hr.cell (show 1 < 9 by omega); have k2 := hr.cell (show 2 < 9 by omega); have k3 := hr.cell (show 3 < 9 by omega); have k4 := hr.cell (show 4 < 9 by omega); have k5 := hr.cell (show 5 < 9 by omega); have k6 := hr.cell (show 6 < 9 by omega); have k7 := hr.cell (show 7 < 9 by omega); have k8 := hr.cell (show 8 < 9 by omega); have fk0 := hr.frozen 0; have fk1 := hr.frozen 1; have fk2 := hr.frozen 2; have fk3 := hr.frozen 3; have fk4 := hr.frozen 4; have fk5 := hr.frozen 5; have fk6 := hr.frozen 6; have fk7 := hr.frozen 7; have fk8 := hr.frozen 8
      refine stepTo_gen fun K' hK => ?_
      simp [go_sem, stepTo, hc, hfn, h2, h26, k0, k1, k2, k3, k4, k5, k6, k7, k8, fk0, fk1, fk2, fk3, fk4, fk5, fk6, fk7, fk8]
      exact hK _ _ ⟨hG.put3 HA.out c, ⟨r2 + 1, .inr (.inr ⟨rfl, rfl⟩), putL_grown [.int .i64 c.p.num, .string c.p.fst, .string c.p.lst, .int .i64 c.p.born, .int .i64 c.p.zone, .bool c.cit, .bool c.con, .bool c.flu, .int .i64 c.job] w' (r2 + 1) 0⟩, (fun _ => rfl), c, hq, (putC_row hr c).2⟩
    | n + 5, ho => simp at ho
  · intro a w' hb hs hdf hG hf
    have hA2 : AtR w' r2 y l m za zl zc ja jl jc := hf 3 _ rfl rfl
    obtain ⟨c, hq, hA3⟩ : ∃ c : Cand, SmallC c ∧ AtD w' (r2 + 1) c := hf 4 _ rfl rfl
    have h2 := hb 2 (by simp); have h3 := hb 3 (by simp)
    obtain ⟨tmps, dfs⟩ := a
    simp only at hdf
    subst hdf
    have h2' : tmps.getD 2 undef = .pointer (some ⟨r2, 0, none⟩) := h2
    have h3' : tmps.getD 3 undef = .pointer (some ⟨r2 + 1, 0, none⟩) := h3
    have HX := Lib.hid (show Below w.heap.size w w' by rw [HW.out]; exact HB2.out.trans hG.below)
    have HU := Lib.hid (show RulesUp w.heap.size w' za zl ja jl zz jj by rw [HW.out]; exact hG.up.mono (by omega))
    have HQ := Lib.hid hq
    clear hf hb h2 h3 hs hG hq
    obtain ⟨c0, c1, c2, c3, c4⟩ := hA2
    obtain ⟨d0, d1, d2, d3, d4, d5, d6, d7, d8⟩ := hA3
    go_wp2_with fail
    (try simp only [Exit.inBlock, Exit.then])
    refine bodyPost_ret (v := .tuple #[.agg #[.int .i64 y, .int .i64 l, .int .i64 m, .slice za zl zc, .slice ja jl jc], .agg #[.int .i64 c.p.num, .string c.p.fst, .string c.p.lst, .int .i64 c.p.born, .int .i64 c.p.zone, .bool c.cit, .bool c.con, .bool c.flu, .int .i64 c.job]]) ?_ rfl ⟨_, _, _, _, _, _, _, _, _, _, _, c, rfl, HU.out, HQ.out, HX.out⟩
    rw [results_cells2 rfl]
    simp only [h2', h3']
    go_simp

structure DrawL (r2 b bp : Nat) (y l m : Int) (za : Option Addr) (zl zc : Nat) (ja : Option Addr) (jl jc : Nat) (zz jj : List Int) (w1 w : World) : Prop where
  src : Src r2 93 w b
  below : Below r2 w1 w
  sz : r2 ≤ w.heap.size
  row2 : ∃ f, w.rowIs r2 26 5 f
  box : AtR w bp y l m za zl zc ja jl jc
  up : RulesUp b w za zl ja jl zz jj
section
variable {r2 b bp : Nat} {y l m : Int} {za : Option Addr} {zl zc : Nat} {ja : Option Addr} {jl jc : Nat} {zz jj : List Int} {w1 w w' : World}
theorem DrawL.next (h : DrawL r2 b bp y l m za zl zc ja jl jc zz jj w1 w) (h1 : r2 < b) (h2 : b < bp) (hs : Src r2 93 w' b) (hg : w.grownBy w' (some b)) : DrawL r2 b bp y l m za zl zc ja jl jc zz jj w1 w' := by
  obtain ⟨f2, h2⟩ := h.row2
  exact ⟨hs, h.below.grown hg h.sz (fun k hk => by cases hk; omega), Nat.le_trans h.sz hg.size, ⟨f2, row_grown h2 hg (by omega)⟩, h.box.grown hg (by omega), h.up.grown hg (Nat.le_refl _)⟩
theorem DrawL.drew (h : DrawL r2 b bp y l m za zl zc ja jl jc zz jj w1 w) (h1 : r2 < b) (h2 : b < bp) : DrawL r2 b bp y l m za zl zc ja jl jc zz jj w1 w.drew := by
  have hg : w.grownBy w.drew (some b) := ⟨rfl, rfl, rfl, Nat.le_refl _, fun _ _ _ => rfl⟩
  exact h.next h1 h2 (h.src.kept rfl (Below.drew (Below.refl _ _))) hg
theorem DrawL.put2 (h : DrawL r2 b bp y l m za zl zc ja jl jc zz jj w1 w) (h1 : r2 < b) (h2 : b < bp) : DrawL r2 b bp y l m za zl zc ja jl jc zz jj w1 (putL w r2 0 [.int .i64 y, .int .i64 l, .int .i64 m, .slice za zl zc, .slice ja jl jc]) := by
  obtain ⟨f2, h2⟩ := h.row2
  have hg := putL_grown [.int .i64 y, .int .i64 l, .int .i64 m, .slice za zl zc, .slice ja jl jc] w r2 0
  exact ⟨h.src.kept (hg.block b h.src.lt (fun e => by have := Option.some.inj e; omega)) ((Below.refl r2 w).grown hg h.sz (fun k hk => by cases hk; omega)), h.below.grown hg h.sz (fun k hk => by cases hk; omega), Nat.le_trans h.sz hg.size, (putR_row h2 y l m za zl zc ja jl jc).1, h.box.grown hg (by omega), h.up.grown hg (by omega)⟩
end
def RLF (r2 b : Nat) (y l m : Int) (za : Option Addr) (zl zc : Nat) (ja : Option Addr) (jl jc : Nat) : Nat → Value → World → Prop
  | 0, v, _ => v = .agg #[.int .i64 y, .int .i64 l, .int .i64 m, .slice za zl zc, .slice ja jl jc]
  | 1, v, _ => v = .pointer (some ⟨b, 0, none⟩)
  | 2, v, w | 4, v, w => ∃ (g cap : Nat) (cs : List Cand), v = .slice (some ⟨g, 0, none⟩) cs.length cap ∧ OwnC w (b + 1) (.slice (some ⟨g, 0, none⟩) cs.length cap) cs ∧ cs.length ≤ 61 ∧ SmallCs cs
  | 3, _, w => AtR w r2 y l m za zl zc ja jl jc
  | _, _, _ => True

set_option maxRecDepth 100000 in
set_option maxHeartbeats 2000000 in
theorem specDrawRCs_any (a : Option Addr) (len cap : Nat) (bs : List Int) (w : World) (hl : bs.length = len) (hm : len ≤ 4096) (h : BytesAt w.heap.size w a bs) :
    Calls Try.prog 16 #[.slice a len cap] w (DrewRCs w) := by
  have hsz1 : (w.alloc (.cells #[.int .i64 0, .int .i64 0, .int .i64 0, .slice none 0 0, .slice none 0 0] 26)).heap.size = w.heap.size + 1 := by simp
  have HB0 := Lib.hid (show Below w.heap.size w (w.alloc (.cells #[.int .i64 0, .int .i64 0, .int .i64 0, .slice none 0 0, .slice none 0 0] 26)) from (Below.refl _ _).alloc (Nat.le_refl _) _)
  have HF := Lib.hid (specFrom_low w.heap.size a len cap bs (w.alloc (.cells #[.int .i64 0, .int .i64 0, .int .i64 0, .slice none 0 0, .slice none 0 0] 26)) hl hm (by omega) (h.below HB0.out))
  have HR2 := Lib.hid (World.rowIs_alloc w #[.int .i64 0, .int .i64 0, .int .i64 0, .slice none 0 0, .slice none 0 0] 26 (fun i => (#[Value.int .i64 0, .int .i64 0, .int .i64 0, .slice none 0 0, .slice none 0 0] : Array Value)[i]?.getD undef) (fun i hi => by rw [Array.getElem?_eq_getElem hi]; rfl))
  clear h hl
  go_enter Try.func16, Try.ntmps16
  go_wp2_with fail
  refine HF.out.mono ?_; rintro e w1 ⟨b, rfl, hS, hbB, hB⟩
  rw [hsz1] at hbB hB
  have HR21 := Lib.hid (row_later HR2.out (by rw [hsz1]; exact hB))
  have hz1 : w.heap.size + 1 ≤ w1.heap.size := by have := hB.size; rw [hsz1] at this; exact this
  have HB1 := Lib.hid (HB0.out.trans (hB.mono (by omega))); have HS1 := Lib.hid hS
  clear hS hB HB0 HF HR2
  go_wp2_with fail
  refine (specRules6_any _ b w1 HS1.out).mono ?_; rintro e w2 ⟨y, l, m, za, zl, zc, ja, jl, jc, zz, jj, rfl, hu, hS, hg⟩
  have hlt2 := hS.lt; have hz2 : w1.heap.size ≤ w2.heap.size := hg.size
  have HR22 := Lib.hid (row_later (row_grown HR21.out hg (by omega)) (boxed w2 (.cells #[.int .i64 y, .int .i64 l, .int .i64 m, .slice za zl zc, .slice ja jl jc] 26)))
  have HB2 := Lib.hid ((HB1.out.trans (grown_below hg (by omega) (by omega))).alloc (by omega) (.cells #[.int .i64 y, .int .i64 l, .int .i64 m, .slice za zl zc, .slice ja jl jc] 26)); have HS2 := Lib.hid (hS.alloc (.cells #[.int .i64 y, .int .i64 l, .int .i64 m, .slice za zl zc, .slice ja jl jc] 26))
  have HP2 := Lib.hid (atR_box w2 y l m za zl zc ja jl jc 26); have HU2 := Lib.hid (hu.below (boxed w2 (.cells #[.int .i64 y, .int .i64 l, .int .i64 m, .slice za zl zc, .slice ja jl jc] 26)))
  have hz3 : (w2.alloc (.cells #[.int .i64 y, .int .i64 l, .int .i64 m, .slice za zl zc, .slice ja jl jc] 26)).heap.size = w2.heap.size + 1 := by simp
  clear hS hg hu HR21 HS1 HB1
  go_wp2_with fail
  generalize w2.alloc (.cells #[.int .i64 y, .int .i64 l, .int .i64 m, .slice za zl zc, .slice ja jl jc] 26) = w3 at HR22 HB2 HS2 HP2 HU2 hz3 ⊢
  obtain ⟨bp, hbp⟩ : ∃ bp, w2.heap.size = bp := ⟨_, rfl⟩
  rw [hbp] at HP2 hlt2 hz2 hz3 ⊢
  obtain ⟨r2, hr2⟩ : ∃ r2, w.heap.size = r2 := ⟨_, rfl⟩
  have HW := Lib.hid hr2
  rw [hr2] at HR22 HB2 HS2 hbB hz1 ⊢
  have h1 : r2 < b := by omega
  clear hsz1 hbp hr2
  refine wp_region_facts2 (sz := 13) [2, 4, 5] (by kernel_rfl) (by kernel_rfl) (by kernel_rfl) (fun _ => none) (fun i j => i != j) (by kernel_rfl) (by kernel_rfl) (DrawL r2 b bp y l m za zl zc ja jl jc zz jj w3) (DrawRel r2 r2 b 3 3) (RLF r2 b y l m za zl zc ja jl jc) rfl (DrawL.drew ⟨HS2.out, Below.refl _ _, by omega, ⟨_, HR22.out⟩, HP2.out, HU2.out⟩ h1 hlt2) ?_ ?_ ?_
  · intro i j v w4 w5 hi hj hkp hf hR
    have hne : i ≠ j := by simpa using hkp
    obtain ⟨k, hk, hg⟩ := hR
    unfold RLF at hf ⊢
    have hkb : k < b + 1 := by rcases hk with rfl | ⟨rfl, rfl⟩ | ⟨rfl, rfl⟩ <;> omega
    split at hf <;> first | exact hf | trivial | skip
    · obtain ⟨g, cap, cs, e, ho, hq⟩ := hf
      exact ⟨g, cap, cs, e, ho.grown hg hkb, hq⟩
    · obtain ⟨g, cap, cs, e, ho, hq⟩ := hf
      exact ⟨g, cap, cs, e, ho.grown hg hkb, hq⟩
    · refine AtR.grown hf hg ?_
      rcases hk with rfl | ⟨rfl, rfl⟩ | ⟨rfl, rfl⟩
      · omega
      · exact absurd rfl hne
      · exact absurd rfl hne
  · intro i o ho
    match i, ho with
    | 0, ho =>
      cases ho
      intro ev w' hc hfn hb hG hd
      have h2 : ev (.tmp 5) = .pointer (some ⟨bp, 0, none⟩) := hb 5 (by simp)
      obtain ⟨c0, c1, c2, c3, c4⟩ := hG.box
      refine stepTo_gen fun K' hK => ?_
      simp [go_sem, stepTo, hc, hfn, h2, c0, c1, c2, c3, c4]
      exact hK _ _ ⟨hG, DrawRel.same _, (fun h => by cases h), rfl⟩
    | 1, ho =>
      cases ho
      intro ev w' hc hfn hb hG hd
      have h2 : ev (.tmp 4) = .pointer (some ⟨b, 0, none⟩) := hb 4 (by simp)
      refine stepTo_gen fun K' hK => ?_
      simp [go_sem, stepTo, hc, hfn, h2]
      exact hK _ _ ⟨hG, DrawRel.same _, (fun h => by cases h), rfl⟩
    | 2, ho =>
      cases ho
      intro ev w' hc hfn hb hG hd
      have h3 : ev (.tmp 11) = .pointer (some ⟨b, 0, none⟩) := hd { on := 1, ground := .data } (by simp) rfl rfl _ rfl
      have hsl := hG.src.lt
      refine stepTo_gen fun K' hK => ?_
      simp [go_sem, stepTo, hc, hfn, h3]
      refine (specList6_any r2 b w' hG.src).mono ?_; rintro e w5 ⟨v, cs, rfl, ho, hcl, hq, hS, hg⟩
      obtain ⟨g, cap, rfl⟩ := ho.1
      exact ⟨_, rfl, hK _ _ ⟨hG.next h1 hlt2 hS hg, ⟨b, .inl rfl, hg⟩, (fun h => by cases h), g, cap, cs, rfl, ho.base (by omega), hcl, hq⟩⟩
    | 3, ho =>
      cases ho
      intro ev w' hc hfn hb hG hd
      have h2 : ev (.tmp 2) = .pointer (some ⟨r2, 0, none⟩) := hb 2 (by simp)
      have h26 : ev (.tmp 10) = .agg #[.int .i64 y, .int .i64 l, .int .i64 m, .slice za zl zc, .slice ja jl jc] := hd { on := 0, ground := .data } (by simp) rfl rfl _ rfl
      obtain ⟨f, hr⟩ := hG.row2
      have k0 := hr.cell (show 0 < 5 by omega); have k1 := hr.cell (show 1 < 5 by omega); have k2 := hr.cell (show 2 < 5 by omega); have k3 := hr.cell (show 3 < 5 by omega); have k4 := hr.cell (show 4 < 5 by omega); have fk0 := hr.frozen 0; have fk1 := hr.frozen 1; have fk2 := hr.frozen 2; have fk3 := hr.frozen 3; have fk4 := hr.frozen 4
      refine stepTo_gen fun K' hK => ?_
      simp [go_sem, stepTo, hc, hfn, h2, h26, k0, k1, k2, k3, k4, fk0, fk1, fk2, fk3, fk4]
      exact hK _ _ ⟨hG.put2 h1 hlt2, ⟨r2, .inr (.inl ⟨rfl, rfl⟩), putL_grown [.int .i64 y, .int .i64 l, .int .i64 m, .slice za zl zc, .slice ja jl jc] w' r2 0⟩, (fun _ => rfl), (putR_row hr y l m za zl zc ja jl jc).2⟩
    | 4, ho =>
      cases ho
      intro ev w' hc hfn hb hG hd
      obtain ⟨g, cap, cs, h26, ho, hq⟩ : ∃ (g cap : Nat) (cs : List Cand), ev (.tmp 12) = .slice (some ⟨g, 0, none⟩) cs.length cap ∧ OwnC w' (b + 1) (.slice (some ⟨g, 0, none⟩) cs.length cap) cs ∧ cs.length ≤ 61 ∧ SmallCs cs := hd { on := 2, ground := .data } (by simp) rfl rfl _ rfl
      refine stepTo_gen fun K' hK => ?_
      simp [go_sem, stepTo, hc, hfn, h26]
      exact hK _ _ ⟨hG, DrawRel.same _, (fun h => by cases h), g, cap, cs, rfl, ho, hq⟩
    | n + 5, ho => simp at ho
  · intro a w' hb hs hdf hG hf
    have hA2 : AtR w' r2 y l m za zl zc ja jl jc := hf 3 _ rfl rfl
    obtain ⟨g, cap, cs, hv, ho, hcl, hq⟩ : ∃ (g cap : Nat) (cs : List Cand), a.eval (.tmp 3) = .slice (some ⟨g, 0, none⟩) cs.length cap ∧ OwnC w' (b + 1) (.slice (some ⟨g, 0, none⟩) cs.length cap) cs ∧ cs.length ≤ 61 ∧ SmallCs cs := hf 4 _ rfl rfl
    have h2 := hb 2 (by simp)
    obtain ⟨tmps, dfs⟩ := a
    simp only at hdf
    subst hdf
    have h2' : tmps.getD 2 undef = .pointer (some ⟨r2, 0, none⟩) := h2
    have h3' : tmps.getD 3 undef = .slice (some ⟨g, 0, none⟩) cs.length cap := hv
    have HX := Lib.hid (show Below w.heap.size w w' by rw [HW.out]; exact HB2.out.trans hG.below)
    have HU := Lib.hid (show RulesUp w.heap.size w' za zl ja jl zz jj by rw [HW.out]; exact hG.up.mono (by omega))
    have HQ := Lib.hid hq; have HC := Lib.hid ho.cands
    clear hf hb h2 hv hs hG hq ho
    obtain ⟨c0, c1, c2, c3, c4⟩ := hA2
    go_wp2_with fail
    (try simp only [Exit.inBlock, Exit.then])
    refine bodyPost_ret (v := .tuple #[.agg #[.int .i64 y, .int .i64 l, .int .i64 m, .slice za zl zc, .slice ja jl jc], .slice (some ⟨g, 0, none⟩) cs.length cap]) ?_ rfl ⟨_, _, _, _, _, _, _, _, _, _, _, g, cap, cs, rfl, HU.out, HC.out, hcl, HQ.out, HX.out⟩
    rw [results_cell_tmp rfl]
    simp only [h2', h3']
    go_simp

/-- the block x does not hold these numbers -/
def NotAt (x : Nat) (a : Option Addr) (zs : List Int) : Prop := zs = [] ∨ ∀ g, a = some ⟨g, 0, none⟩ → x ≠ g
theorem IntsUp.notAt {b x : Nat} {w : World} {a : Option Addr} {zs : List Int} (h : IntsUp b w a zs) (hx : w.heap.size ≤ x) : NotAt x a zs := by
  rcases h with h | ⟨g, e, hgb, hc⟩
  · exact .inl h
  · cases zs with
    | nil => exact .inl rfl
    | cons z zs =>
      refine .inr fun g' e' e2 => ?_
      rw [e] at e'
      have e3 : g = g' := by injection e' with e'; injection e'
      have := World.block_lt_of_cell? w _ (hc 0 z rfl)
      simp only at this
      omega
theorem IntsUp.put {b x o : Nat} {w : World} {a : Option Addr} {zs : List Int} (h : IntsUp b w a zs) (hn : NotAt x a zs) (u : Value) : IntsUp b (w.setCell ⟨x, o, none⟩ u) a zs := by
  rcases hn with hn | hn
  · exact .inl hn
  · exact intsUp_apart h hn u
theorem AtR.drew {w : World} {b : Nat} {y l m : Int} {za : Option Addr} {zl zc : Nat} {ja : Option Addr} {jl jc : Nat} (h : AtR w b y l m za zl zc ja jl jc) : AtR w.drew b y l m za zl zc ja jl jc := h
theorem AtD.drew {w : World} {b : Nat} {c : Cand} (h : AtD w b c) : AtD w.drew b c := h
/-- rules and a candidate stored in the answer's two cells -/
def putRC (w : World) (r : Nat) (y l m : Int) (za : Option Addr) (zl zc : Nat) (ja : Option Addr) (jl jc : Nat) (c : Cand) : World := (putL (putL w r 0 [.int .i64 y, .int .i64 l, .int .i64 m, .slice za zl zc, .slice ja jl jc]) (r + 1) 0 [.int .i64 c.p.num, .string c.p.fst, .string c.p.lst, .int .i64 c.p.born, .int .i64 c.p.zone, .bool c.cit, .bool c.con, .bool c.flu, .int .i64 c.job]).drew
theorem putRC_facts {w : World} {r B : Nat} {w0 : World} {v0 v1 v2 v3 v4 u0 u1 u2 u3 u4 u5 u6 u7 u8 : Value} {y l m : Int} {za : Option Addr} {zl zc : Nat} {ja : Option Addr} {jl jc : Nat} {zz jj : List Int} {c : Cand} (h2 : Row5 r w 26 v0 v1 v2 v3 v4) (h3 : RowV (r + 1) w u0 u1 u2 u3 u4 u5 u6 u7 u8) (hB : Below r w0 w) (hr : r ≤ w.heap.size) (hu : RulesUp B w za zl ja jl zz jj) (hb : r + 1 ≤ B) :
    AtR (putRC w r y l m za zl zc ja jl jc c) r y l m za zl zc ja jl jc ∧ AtD (putRC w r y l m za zl zc ja jl jc c) (r + 1) c ∧ RulesUp r (putRC w r y l m za zl zc ja jl jc c) za zl ja jl zz jj ∧ Below r w0 (putRC w r y l m za zl zc ja jl jc c) := by
  obtain ⟨f2, h2, _⟩ := h2; obtain ⟨f3, h3, _⟩ := h3
  have g1 := putL_grown [.int .i64 y, .int .i64 l, .int .i64 m, .slice za zl zc, .slice ja jl jc] w r 0
  have g2 := putL_grown [.int .i64 c.p.num, .string c.p.fst, .string c.p.lst, .int .i64 c.p.born, .int .i64 c.p.zone, .bool c.cit, .bool c.con, .bool c.flu, .int .i64 c.job] (putL w r 0 [.int .i64 y, .int .i64 l, .int .i64 m, .slice za zl zc, .slice ja jl jc]) (r + 1) 0
  have k3 := row_grown h3 g1 (by omega)
  exact ⟨AtR.drew ((putR_row h2 y l m za zl zc ja jl jc).2.grown g2 (by omega)), AtD.drew (putC_row k3 c).2, (((hu.grown g1 (by omega)).grown g2 hb).below (Below.drew (Below.refl _ _))).mono (by omega), Below.drew ((hB.grown g1 hr (fun k hk => by cases hk; exact Nat.le_refl _)).grown g2 (Nat.le_trans hr g1.size) (fun k hk => by cases hk; omega))⟩

theorem row5_of {w : World} {r : Nat} {f : Nat → Value} (h : w.rowIs r 26 5 f) : Row5 r w 26 (f 0) (f 1) (f 2) (f 3) (f 4) := ⟨f, h, rfl, rfl, rfl, rfl, rfl⟩
theorem RowV.of {w : World} {r : Nat} {f : Nat → Value} (h : w.rowIs r 30 9 f) : RowV r w (f 0) (f 1) (f 2) (f 3) (f 4) (f 5) (f 6) (f 7) (f 8) := ⟨f, h, rfl, rfl, rfl, rfl, rfl, rfl, rfl, rfl, rfl⟩

set_option maxRecDepth 100000 in
set_option maxHeartbeats 4000000 in
theorem specDrawQF_any (a : Option Addr) (len cap : Nat) (bs : List Int) (w : World) (hl : bs.length = len) (hm : len ≤ 4096) (h : BytesAt w.heap.size w a bs) :
    Calls Try.prog 21 #[.slice a len cap] w (DrewRC w) := by
  have hsz1 : (w.alloc (.cells #[.int .i64 0, .int .i64 0, .int .i64 0, .slice none 0 0, .slice none 0 0] 26)).heap.size = w.heap.size + 1 := by simp
  have hsz2 : ((w.alloc (.cells #[.int .i64 0, .int .i64 0, .int .i64 0, .slice none 0 0, .slice none 0 0] 26)).alloc (.cells #[.int .i64 0, .string ⟨#[]⟩, .string ⟨#[]⟩, .int .i64 0, .int .i64 0, .bool false, .bool false, .bool false, .int .i64 0] 30)).heap.size = w.heap.size + 2 := by simp
  have HB0 := Lib.hid (show Below w.heap.size w ((w.alloc (.cells #[.int .i64 0, .int .i64 0, .int .i64 0, .slice none 0 0, .slice none 0 0] 26)).alloc (.cells #[.int .i64 0, .string ⟨#[]⟩, .string ⟨#[]⟩, .int .i64 0, .int .i64 0, .bool false, .bool false, .bool false, .int .i64 0] 30)) from ((Below.refl _ _).alloc (Nat.le_refl _) _).alloc (by simp) _)
  have HF := Lib.hid (specFrom_low w.heap.size a len cap bs ((w.alloc (.cells #[.int .i64 0, .int .i64 0, .int .i64 0, .slice none 0 0, .slice none 0 0] 26)).alloc (.cells #[.int .i64 0, .string ⟨#[]⟩, .string ⟨#[]⟩, .int .i64 0, .int .i64 0, .bool false, .bool false, .bool false, .int .i64 0] 30)) hl hm (by omega) (h.below HB0.out))
  have HR2 := Lib.hid ((row5_box w 26 (.int .i64 0) (.int .i64 0) (.int .i64 0) (.slice none 0 0) (.slice none 0 0)).below (boxed (w.alloc (.cells #[.int .i64 0, .int .i64 0, .int .i64 0, .slice none 0 0, .slice none 0 0] 26)) (.cells #[.int .i64 0, .string ⟨#[]⟩, .string ⟨#[]⟩, .int .i64 0, .int .i64 0, .bool false, .bool false, .bool false, .int .i64 0] 30)))
  have HR3 := Lib.hid (show RowV (w.heap.size + 1) ((w.alloc (.cells #[.int .i64 0, .int .i64 0, .int .i64 0, .slice none 0 0, .slice none 0 0] 26)).alloc (.cells #[.int .i64 0, .string ⟨#[]⟩, .string ⟨#[]⟩, .int .i64 0, .int .i64 0, .bool false, .bool false, .bool false, .int .i64 0] 30)) (.int .i64 0) (.string ⟨#[]⟩) (.string ⟨#[]⟩) (.int .i64 0) (.int .i64 0) (.bool false) (.bool false) (.bool false) (.int .i64 0) by have := rowV_box (w.alloc (.cells #[.int .i64 0, .int .i64 0, .int .i64 0, .slice none 0 0, .slice none 0 0] 26)) (.int .i64 0) (.string ⟨#[]⟩) (.string ⟨#[]⟩) (.int .i64 0) (.int .i64 0) (.bool false) (.bool false) (.bool false) (.int .i64 0); rw [hsz1] at this; exact this)
  have HH := Lib.hid h; have HL := Lib.hid hl
  clear h hl
  go_enter Try.func21, Try.ntmps21
  go_wp2_with fail
  refine HF.out.mono ?_; rintro e w1 ⟨b, rfl, hS, hbB, hB⟩
  rw [hsz2] at hbB hB
  have HR21 := Lib.hid (HR2.out.below (by rw [hsz2]; exact hB)); have HR31 := Lib.hid (HR3.out.below (by rw [hsz2]; exact hB))
  have hz1 : w.heap.size + 2 ≤ w1.heap.size := by have := hB.size; rw [hsz2] at this; exact this
  have hlt1 := hS.lt
  have HB1 := Lib.hid (HB0.out.trans (hB.mono (by omega))); have HS1 := Lib.hid hS
  clear hS hB HB0 HF HR2 HR3
  go_wp2_with fail
  refine (specDrawRC_any a len cap bs w1 HL.out hm (HH.out.later HB1.out)).mono ?_; rintro e w2 ⟨y, l, m, za, zl, zc, ja, jl, jc, zz, jj, c, rfl, hu, hq, hB⟩
  have hz2 : w1.heap.size ≤ w2.heap.size := hB.size
  have hz4 : ((w2.alloc (.cells #[.int .i64 y, .int .i64 l, .int .i64 m, .slice za zl zc, .slice ja jl jc] 26)).alloc (.cells #[.int .i64 c.p.num, .string c.p.fst, .string c.p.lst, .int .i64 c.p.born, .int .i64 c.p.zone, .bool c.cit, .bool c.con, .bool c.flu, .int .i64 c.job] 30)).heap.size = w2.heap.size + 2 := by simp
  have HQ := Lib.hid hq
  have HNZ := Lib.hid (hu.2.2.1.notAt (Nat.le_refl _)); have HNJ := Lib.hid (hu.2.2.2.2.2.notAt (Nat.le_refl _))
  have hall : Below w1.heap.size w1 ((w2.alloc (.cells #[.int .i64 y, .int .i64 l, .int .i64 m, .slice za zl zc, .slice ja jl jc] 26)).alloc (.cells #[.int .i64 c.p.num, .string c.p.fst, .string c.p.lst, .int .i64 c.p.born, .int .i64 c.p.zone, .bool c.cit, .bool c.con, .bool c.flu, .int .i64 c.job] 30)) := (hB.alloc hB.size (.cells #[.int .i64 y, .int .i64 l, .int .i64 m, .slice za zl zc, .slice ja jl jc] 26)).alloc (by simp; omega) (.cells #[.int .i64 c.p.num, .string c.p.fst, .string c.p.lst, .int .i64 c.p.born, .int .i64 c.p.zone, .bool c.cit, .bool c.con, .bool c.flu, .int .i64 c.job] 30)
  have HR22 := Lib.hid (HR21.out.below hall); have HR32 := Lib.hid (HR31.out.below hall)
  have HB2 := Lib.hid (HB1.out.trans (hall.mono (by omega))); have HS2 := Lib.hid (HS1.out.kept (hall.block b hlt1) (hall.mono (by omega)))
  have HU2 := Lib.hid ((hu.below (boxed w2 (.cells #[.int .i64 y, .int .i64 l, .int .i64 m, .slice za zl zc, .slice ja jl jc] 26))).below (boxed (w2.alloc (.cells #[.int .i64 y, .int .i64 l, .int .i64 m, .slice za zl zc, .slice ja jl jc] 26)) (.cells #[.int .i64 c.p.num, .string c.p.fst, .string c.p.lst, .int .i64 c.p.born, .int .i64 c.p.zone, .bool c.cit, .bool c.con, .bool c.flu, .int .i64 c.job] 30)))
  have HP2 := Lib.hid ((row5_box w2 26 (.int .i64 y) (.int .i64 l) (.int .i64 m) (.slice za zl zc) (.slice ja jl jc)).below (boxed (w2.alloc (.cells #[.int .i64 y, .int .i64 l, .int .i64 m, .slice za zl zc, .slice ja jl jc] 26)) (.cells #[.int .i64 c.p.num, .string c.p.fst, .string c.p.lst, .int .i64 c.p.born, .int .i64 c.p.zone, .bool c.cit, .bool c.con, .bool c.flu, .int .i64 c.job] 30)))
  have HD2 := Lib.hid (show RowV (w2.heap.size + 1) ((w2.alloc (.cells #[.int .i64 y, .int .i64 l, .int .i64 m, .slice za zl zc, .slice ja jl jc] 26)).alloc (.cells #[.int .i64 c.p.num, .string c.p.fst, .string c.p.lst, .int .i64 c.p.born, .int .i64 c.p.zone, .bool c.cit, .bool c.con, .bool c.flu, .int .i64 c.job] 30)) (.int .i64 c.p.num) (.string c.p.fst) (.string c.p.lst) (.int .i64 c.p.born) (.int .i64 c.p.zone) (.bool c.cit) (.bool c.con) (.bool c.flu) (.int .i64 c.job) by have := rowV_box (w2.alloc (.cells #[.int .i64 y, .int .i64 l, .int .i64 m, .slice za zl zc, .slice ja jl jc] 26)) (.int .i64 c.p.num) (.string c.p.fst) (.string c.p.lst) (.int .i64 c.p.born) (.int .i64 c.p.zone) (.bool c.cit) (.bool c.con) (.bool c.flu) (.int .i64 c.job); rw [show (w2.alloc (.cells #[.int .i64 y, .int .i64 l, .int .i64 m, .slice za zl zc, .slice ja jl jc] 26)).heap.size = w2.heap.size + 1 by simp] at this; exact this)
  clear hB hall hu hq HR21 HR31 HS1 HB1 HH HL
  go_wp2_with fail
  generalize (w2.alloc (.cells #[.int .i64 y, .int .i64 l, .int .i64 m, .slice za zl zc, .slice ja jl jc] 26)).alloc (.cells #[.int .i64 c.p.num, .string c.p.fst, .string c.p.lst, .int .i64 c.p.born, .int .i64 c.p.zone, .bool c.cit, .bool c.con, .bool c.flu, .int .i64 c.job] 30) = w3 at HR22 HR32 HB2 HS2 HU2 HP2 HD2 hz4 ⊢
  obtain ⟨bp, hbp⟩ : ∃ bp, w2.heap.size = bp := ⟨_, rfl⟩
  rw [hbp] at HP2 HD2 hz2 hz4 HNZ HNJ
  (try rw [hbp])
  obtain ⟨r2, hr2⟩ : ∃ r2, w.heap.size = r2 := ⟨_, rfl⟩
  have HW := Lib.hid hr2
  rw [hr2] at HR22 HR32 HB2 HS2 hbB hz1
  (try rw [hr2])
  clear hsz1 hsz2 hbp hr2
  refine (specNext_any r2 b 2 w3 (by omega) HS2.out).mono ?_; rintro e w4 ⟨x0, rfl, hx, _, hS, hg⟩
  obtain ⟨lx0, ux0⟩ := hx (by omega)
  have HR24 := Lib.hid (HR22.out.grown hg (by omega)); have HR34 := Lib.hid (HR32.out.grown hg (by omega)); have HB4 := Lib.hid (HB2.out.trans (grown_below hg (by omega) (by omega))); have HS4 := Lib.hid hS
  have HU4 := Lib.hid (HU2.out.grown hg (by omega)); have HP4 := Lib.hid (HP2.out.grown hg (by omega)); have HD4 := Lib.hid (HD2.out.grown hg (by omega))
  have hz5 : w3.heap.size ≤ w4.heap.size := hg.size
  clear hx hS hg HR22 HR32 HB2 HS2 HU2 HP2 HD2
  by_cases h0 : x0 = 0
  · subst h0
    go_wp2_with fail
    refine (specNext_any r2 b 30 w4 (by omega) HS4.out).mono ?_; rintro e w5 ⟨x1, rfl, hx, _, hS, hg⟩
    obtain ⟨lx1, ux1⟩ := hx (by omega)
    have hnp : bp ≠ b := by omega
    have HR25 := Lib.hid ((HR24.out.grown hg (by omega)).other (show bp ≠ r2 by omega) (o := 0) (.int .i64 (1970 + x1))); have HR35 := Lib.hid ((HR34.out.grown hg (by omega)).other (show bp ≠ r2 + 1 by omega) (o := 0) (.int .i64 (1970 + x1)))
    have HB5 := Lib.hid ((HB4.out.trans (grown_below hg (by omega) (by omega))).setCell (p := ⟨bp, 0, none⟩) (show r2 ≤ bp by omega) (.int .i64 (1970 + x1)))
    have HUG := Lib.hid (HU4.out.grown hg (by omega))
    have HPG := Lib.hid (HP4.out.grown hg hnp)
    have HP5 := Lib.hid (HPG.out.set0 (.int .i64 (1970 + x1)))
    have HD5 := Lib.hid ((HD4.out.grown hg (by omega)).other (show bp ≠ bp + 1 by omega) (o := 0) (.int .i64 (1970 + x1)))
    have hz6 : w4.heap.size ≤ w5.heap.size := hg.size
    obtain ⟨k0, k1, k2, k3, k4⟩ := HPG.out.cells
    have g0 := HPG.out.frozen 0
    have HU5 := Lib.hid (show RulesUp w1.heap.size (w5.setCell ⟨bp, 0, none⟩ (.int .i64 (1970 + x1))) za zl ja jl zz jj from ⟨HUG.out.1, HUG.out.2.1, HUG.out.2.2.1.put HNZ.out _, HUG.out.2.2.2.1, HUG.out.2.2.2.2.1, HUG.out.2.2.2.2.2.put HNJ.out _⟩)
    clear hx hS hg HR24 HR34 HB4 HS4 HP4 HD4 HU4 HUG HPG
    go_wp2_with fail
    generalize w5.setCell ⟨bp, 0, none⟩ (.int .i64 (1970 + x1)) = w6 at HR25 HR35 HB5 HP5 HD5 HU5 ⊢
    have q0 := HP5.out.cells; obtain ⟨p0, p1, p2, p3, p4⟩ := q0
    obtain ⟨d0, d1, d2, d3, d4, d5, d6, d7, d8⟩ := HD5.out.cells
    have u0 := HR25.out.frozen 0; have u1 := HR25.out.frozen 1; have u2 := HR25.out.frozen 2; have u3 := HR25.out.frozen 3; have u4 := HR25.out.frozen 4
    have v0 := HR35.out.frozen 0; have v1 := HR35.out.frozen 1; have v2 := HR35.out.frozen 2; have v3 := HR35.out.frozen 3; have v4 := HR35.out.frozen 4; have v5 := HR35.out.frozen 5; have v6 := HR35.out.frozen 6; have v7 := HR35.out.frozen 7; have v8 := HR35.out.frozen 8
    obtain ⟨t0, t1, t2, t3, t4⟩ := HR25.out.cells
    obtain ⟨s0, s1, s2, s3, s4, s5, s6, s7, s8⟩ := HR35.out.cells
    go_region
    have hfin := putRC_facts (y := (1970 + x1)) (l := l) (m := m) (zc := zc) (jc := jc) (c := c) HR25.out HR35.out HB5.out (by have := HB5.out.size; have := HW.out; omega) HU5.out (show r2 + 1 ≤ w1.heap.size by omega)
    (try simp only [Exit.inBlock, Exit.then])
    obtain ⟨wf, hwf⟩ : ∃ wf, putRC w6 r2 (1970 + x1) l m za zl zc ja jl jc c = wf := ⟨_, rfl⟩
    rw [hwf] at hfin
    simp only [putRC, putL, Nat.reduceAdd, Nat.zero_add] at hwf
    rw [hwf]
    refine ‹∀ (a : Act) (w_1 : World), Code.wp _ Code.ret _ a w_1 → _› _ _ ?_
    obtain ⟨a1, a2, a3, a4⟩ := hfin
    have HX := Lib.hid (show Below w.heap.size w wf by rw [HW.out]; exact a4)
    have HU := Lib.hid (show RulesUp w.heap.size wf za zl ja jl zz jj by rw [HW.out]; exact a3)
    obtain ⟨a10, a11, a12, a13, a14⟩ := a1
    go_wp2_with fail
    (try simp only [Exit.inBlock, Exit.then])
    obtain ⟨a20, a21, a22, a23, a24, a25, a26, a27, a28⟩ := a2
    refine bodyPost_ret (v := .tuple #[.agg #[.int .i64 (1970 + x1), .int .i64 l, .int .i64 m, .slice za zl zc, .slice ja jl jc], .agg #[.int .i64 c.p.num, .string c.p.fst, .string c.p.lst, .int .i64 c.p.born, .int .i64 c.p.zone, .bool c.cit, .bool c.con, .bool c.flu, .int .i64 c.job]]) ?_ rfl ⟨_, _, _, _, _, _, _, _, _, _, _, c, rfl, HU.out, HQ.out, HX.out⟩
    rw [results_cells2 rfl]
    go_simp
  · have h0' : (x0 == 0) = false := beq_eq_false_iff_ne.2 h0
    go_wp2_with fail
    have q0 := HP4.out.cells; obtain ⟨p0, p1, p2, p3, p4⟩ := q0
    obtain ⟨d0, d1, d2, d3, d4, d5, d6, d7, d8⟩ := HD4.out.cells
    have u0 := HR24.out.frozen 0; have u1 := HR24.out.frozen 1; have u2 := HR24.out.frozen 2; have u3 := HR24.out.frozen 3; have u4 := HR24.out.frozen 4
    have v0 := HR34.out.frozen 0; have v1 := HR34.out.frozen 1; have v2 := HR34.out.frozen 2; have v3 := HR34.out.frozen 3; have v4 := HR34.out.frozen 4; have v5 := HR34.out.frozen 5; have v6 := HR34.out.frozen 6; have v7 := HR34.out.frozen 7; have v8 := HR34.out.frozen 8
    obtain ⟨t0, t1, t2, t3, t4⟩ := HR24.out.cells
    obtain ⟨s0, s1, s2, s3, s4, s5, s6, s7, s8⟩ := HR34.out.cells
    go_region
    have hfin := putRC_facts (y := y) (l := l) (m := m) (zc := zc) (jc := jc) (c := c) HR24.out HR34.out HB4.out (by have := HB4.out.size; have := HW.out; omega) HU4.out (show r2 + 1 ≤ w1.heap.size by omega)
    (try simp only [Exit.inBlock, Exit.then])
    obtain ⟨wf, hwf⟩ : ∃ wf, putRC w4 r2 y l m za zl zc ja jl jc c = wf := ⟨_, rfl⟩
    rw [hwf] at hfin
    simp only [putRC, putL, Nat.reduceAdd, Nat.zero_add] at hwf
    rw [hwf]
    refine ‹∀ (a : Act) (w_1 : World), Code.wp _ Code.ret _ a w_1 → _› _ _ ?_
    obtain ⟨a1, a2, a3, a4⟩ := hfin
    have HX := Lib.hid (show Below w.heap.size w wf by rw [HW.out]; exact a4)
    have HU := Lib.hid (show RulesUp w.heap.size wf za zl ja jl zz jj by rw [HW.out]; exact a3)
    obtain ⟨a10, a11, a12, a13, a14⟩ := a1
    go_wp2_with fail
    (try simp only [Exit.inBlock, Exit.then])
    obtain ⟨a20, a21, a22, a23, a24, a25, a26, a27, a28⟩ := a2
    refine bodyPost_ret (v := .tuple #[.agg #[.int .i64 y, .int .i64 l, .int .i64 m, .slice za zl zc, .slice ja jl jc], .agg #[.int .i64 c.p.num, .string c.p.fst, .string c.p.lst, .int .i64 c.p.born, .int .i64 c.p.zone, .bool c.cit, .bool c.con, .bool c.flu, .int .i64 c.job]]) ?_ rfl ⟨_, _, _, _, _, _, _, _, _, _, _, c, rfl, HU.out, HQ.out, HX.out⟩
    rw [results_cells2 rfl]
    go_simp

set_option maxRecDepth 100000 in
theorem specDrawRT_any (a : Option Addr) (len cap : Nat) (bs : List Int) (w : World) (hl : bs.length = len) (hm : len ≤ 4096) (h : BytesAt w.heap.size w a bs) :
    Calls Try.prog 24 #[.slice a len cap] w (fun e w' => ∃ x : Int, e = .returned (.int .i64 x) ∧ -2 ≤ x ∧ x ≤ 129 ∧ Below w.heap.size w w') := by
  have HF := Lib.hid (specFrom_any a len cap bs w hl hm h); clear h hl
  go_enter Try.func24, Try.ntmps24
  go_wp2_with fail
  refine HF.out.mono ?_; rintro e w1 ⟨b, rfl, hS, hB⟩
  have hbB := hS.base
  have HB1 := Lib.hid hB; have HS1 := Lib.hid hS; have hz := hB.size
  clear hS hB
  go_wp2_with fail
  refine (specNext_any _ b 132 w1 (by omega) HS1.out).mono ?_; rintro e w2 ⟨x, rfl, hx, _, hS, hg⟩
  obtain ⟨lx, ux⟩ := hx (by omega)
  have HB2 := Lib.hid (HB1.out.trans (grown_below hg (by omega) (by omega)))
  clear hx hS hg
  go_wp2_with fail
  go_ret
  exact ⟨_, rfl, by omega, by omega, HB2.out⟩

end Go.Proofs.Ytjnjmoiilapbiaa
