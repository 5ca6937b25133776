/- Contracts: impl.reasonsAgainst, spec.l06Truths, spec.l06Reasons. -/
import Derived.Test.YtjnjmoiilapbiaaChecked
import Derived.Test.YtjnjmoiilapbiaaBase
import Derived.Test.YtjnjmoiilapbiaaPure61
import Derived.Test.YtjnjmoiilapbiaaHas6
import Derived.Test.YtjnjmoiilapbiaaFacts
import Derived.Test.YtjnjmoiilapbiaaBits2
import Derived.WalkKit
import Derived.WalkSpells
import Derived.WalkLawsBesides
import Derived.Lib.Hide
import Derived.IntWalk
import Derived.Deep.OwnRows
import Derived.Deep.QuietTactic
import Derived.BigQuiet
import Derived.Outline
namespace Go.Proofs.Ytjnjmoiilapbiaa
open Go.RowKit Pure2 Pure40 Pure61

/-- rules lie in block b, from its first cell on -/
def AtR (w : World) (b : Nat) (y l m : Int) (za : Option Addr) (zl zc : Nat) (ja : Option Addr) (jl jc : Nat) : Prop :=
  w.cell? ⟨b, 0, none⟩ = some (.int .i64 y) ∧ w.cell? ⟨b, 1, none⟩ = some (.int .i64 l) ∧ w.cell? ⟨b, 2, none⟩ = some (.int .i64 m) ∧ w.cell? ⟨b, 3, none⟩ = some (.slice za zl zc) ∧ w.cell? ⟨b, 4, none⟩ = some (.slice ja jl jc)
theorem AtR.below {w w' : World} {b : Nat} {y l m : Int} {za : Option Addr} {zl zc : Nat} {ja : Option Addr} {jl jc : Nat} (h : AtR w b y l m za zl zc ja jl jc) (hb : Below w.heap.size w w') : AtR w' b y l m za zl zc ja jl jc :=
  ⟨cell_later hb h.1, cell_later hb h.2.1, cell_later hb h.2.2.1, cell_later hb h.2.2.2.1, cell_later hb h.2.2.2.2⟩
theorem atR_box (w : World) (y l m : Int) (za : Option Addr) (zl zc : Nat) (ja : Option Addr) (jl jc : Nat) (T : TypeId) : AtR (w.alloc (.cells #[.int .i64 y, .int .i64 l, .int .i64 m, .slice za zl zc, .slice ja jl jc] T)) w.heap.size y l m za zl zc ja jl jc := by
  have h : (w.alloc (.cells #[.int .i64 y, .int .i64 l, .int .i64 m, .slice za zl zc, .slice ja jl jc] T)).heap[w.heap.size]? = some (.cells #[.int .i64 y, .int .i64 l, .int .i64 m, .slice za zl zc, .slice ja jl jc] T) := heap_alloc_new w _
  refine ⟨?_, ?_, ?_, ?_, ?_⟩ <;> (unfold World.cell?; rw [h]; rfl)

def vals7 (t0 t1 t2 t3 t4 t5 t6 : Bool) : Array Value := #[.bool t0, .bool t1, .bool t2, .bool t3, .bool t4, .bool t5, .bool t6]
/-- seven false bools are laid -/
def box7 (w : World) (T : TypeId) : World := w.alloc (.cells #[.bool false, .bool false, .bool false, .bool false, .bool false, .bool false, .bool false] T)
/-- seven bools are stored into block b -/
def put7 (w : World) (b : Nat) (t0 t1 t2 t3 t4 t5 t6 : Bool) : World :=
  ((((((w.setCell ⟨b, 0, none⟩ (.bool t0)).setCell ⟨b, 1, none⟩ (.bool t1)).setCell ⟨b, 2, none⟩ (.bool t2)).setCell ⟨b, 3, none⟩ (.bool t3)).setCell ⟨b, 4, none⟩ (.bool t4)).setCell ⟨b, 5, none⟩ (.bool t5)).setCell ⟨b, 6, none⟩ (.bool t6)
def world7 (w : World) (T : TypeId) (t0 t1 t2 t3 t4 t5 t6 : Bool) (b c : Bool) : World := cond c (put7 (box7 w T) w.heap.size t0 t1 t2 t3 t4 t5 t6) (cond b (box7 w T) w)
theorem box7_below (w : World) (T : TypeId) : Below w.heap.size w (box7 w T) := (Below.refl _ _).alloc (Nat.le_refl _) _
theorem put7_below {B : Nat} {w w' : World} {b : Nat} (hB : Below B w w') (hb : B ≤ b) (t0 t1 t2 t3 t4 t5 t6 : Bool) : Below B w (put7 w' b t0 t1 t2 t3 t4 t5 t6) :=
  ((((((hB.setCell hb _).setCell hb _).setCell hb _).setCell hb _).setCell hb _).setCell hb _).setCell hb _
theorem world7_below (w : World) (T : TypeId) (t0 t1 t2 t3 t4 t5 t6 b c : Bool) : Below w.heap.size w (world7 w T t0 t1 t2 t3 t4 t5 t6 b c) := by
  cases c
  · cases b
    · exact Below.refl _ _
    · exact box7_below w T
  · exact put7_below (box7_below w T) (Nat.le_refl _) _ _ _ _ _ _ _
theorem box7_row (w : World) (T : TypeId) : (box7 w T).rowIs w.heap.size T 7 (fun i => (#[Value.bool false, .bool false, .bool false, .bool false, .bool false, .bool false, .bool false] : Array Value)[i]?.getD undef) :=
  World.rowIs_alloc w #[.bool false, .bool false, .bool false, .bool false, .bool false, .bool false, .bool false] T _ (fun i hi => by rw [Array.getElem?_eq_getElem hi]; rfl)
theorem put7_cells (w : World) (T : TypeId) (t0 t1 t2 t3 t4 t5 t6 : Bool) : ∀ v, v = put7 (box7 w T) w.heap.size t0 t1 t2 t3 t4 t5 t6 → (v.cell? ⟨w.heap.size, 0, none⟩ = some (.bool t0) ∧ v.cell? ⟨w.heap.size, 1, none⟩ = some (.bool t1) ∧ v.cell? ⟨w.heap.size, 2, none⟩ = some (.bool t2) ∧ v.cell? ⟨w.heap.size, 3, none⟩ = some (.bool t3) ∧ v.cell? ⟨w.heap.size, 4, none⟩ = some (.bool t4) ∧ v.cell? ⟨w.heap.size, 5, none⟩ = some (.bool t5) ∧ v.cell? ⟨w.heap.size, 6, none⟩ = some (.bool t6)) := by
  rintro v rfl
  have hr := (((((((box7_row w T).set 0 (.bool t0)).set 1 (.bool t1)).set 2 (.bool t2)).set 3 (.bool t3)).set 4 (.bool t4)).set 5 (.bool t5)).set 6 (.bool t6)
  exact ⟨hr.cell (by omega), hr.cell (by omega), hr.cell (by omega), hr.cell (by omega), hr.cell (by omega), hr.cell (by omega), hr.cell (by omega)⟩
theorem box7_cell (w : World) (T : TypeId) (k : Nat) (hk : k < 7) : (box7 w T).cell? ⟨w.heap.size, k, none⟩ = some (.bool false) ∧ (box7 w T).frozen? ⟨w.heap.size, k, none⟩ = false := by
  refine ⟨?_, (box7_row w T).frozen k⟩
  rw [(box7_row w T).cell hk]
  match k, hk with
  | 0, _ | 1, _ | 2, _ | 3, _ | 4, _ | 5, _ | 6, _ => rfl
theorem mask7 (t0 t1 t2 t3 t4 t5 t6 : Bool) (k : Nat) (b : Bool) (h : [t0, t1, t2, t3, t4, t5, t6][k]? = some b) : mask ([t0, t1, t2, t3, t4, t5, t6].take (k + 1)) = mask ([t0, t1, t2, t3, t4, t5, t6].take k) + (if b then 2 ^ k else 0) := mask_take h
theorem mask7_end (t0 t1 t2 t3 t4 t5 t6 : Bool) : mask ([t0, t1, t2, t3, t4, t5, t6].take 7) = mask [t0, t1, t2, t3, t4, t5, t6] := rfl
theorem mask7_lt (l : List Bool) (k : Nat) (_hk : k ≤ 7) : 0 ≤ mask (l.take k) ∧ mask (l.take k) < 2 ^ k := by
  have h := mask_bounds (l.take k)
  have h2 : (l.take k).length ≤ k := List.length_take_le k l
  have h3 : (2 : Int) ^ (l.take k).length ≤ 2 ^ k := by exact_mod_cast Nat.pow_le_pow_right (by omega) h2
  omega
theorem or_all : ∀ k : Fin 7, ∀ x : Fin 64, x.val < 2 ^ k.val → bits .or .i64 ((x.val : Nat) : Int) ((2 ^ k.val : Nat) : Int) = ((x.val + 2 ^ k.val : Nat) : Int) := by decide +kernel
theorem or_pow {x : Int} {k : Nat} (hk : k < 7) (h0 : 0 ≤ x) (h1 : x < 2 ^ k) : bits .or .i64 x ((2 ^ k : Nat) : Int) = x + 2 ^ k := by
  have hp : (2 : Nat) ^ k ≤ 64 := by
    have := Nat.pow_le_pow_right (n := 2) (by omega) (show k ≤ 6 by omega); simpa using this
  have hx : x.toNat < 2 ^ k := by
    have : ((2 ^ k : Nat) : Int) = (2 : Int) ^ k := by push_cast; rfl
    omega
  have := or_all ⟨k, hk⟩ ⟨x.toNat, by omega⟩ hx
  simp only at this
  rw [Int.toNat_of_nonneg h0] at this
  rw [this]; push_cast; rw [Int.toNat_of_nonneg h0]

theorem run_index7_0 (t0 t1 t2 t3 t4 t5 t6 : Bool) (w : World) : (Instr.index 96 (.agg #[.bool t0, .bool t1, .bool t2, .bool t3, .bool t4, .bool t5, .bool t6]) (.int .i64 0)).run Try.prog w = .ok (.bool t0) w := by kernel_rfl
theorem run_index7_1 (t0 t1 t2 t3 t4 t5 t6 : Bool) (w : World) : (Instr.index 96 (.agg #[.bool t0, .bool t1, .bool t2, .bool t3, .bool t4, .bool t5, .bool t6]) (.int .i64 1)).run Try.prog w = .ok (.bool t1) w := by kernel_rfl
theorem run_index7_2 (t0 t1 t2 t3 t4 t5 t6 : Bool) (w : World) : (Instr.index 96 (.agg #[.bool t0, .bool t1, .bool t2, .bool t3, .bool t4, .bool t5, .bool t6]) (.int .i64 2)).run Try.prog w = .ok (.bool t2) w := by kernel_rfl
theorem run_index7_3 (t0 t1 t2 t3 t4 t5 t6 : Bool) (w : World) : (Instr.index 96 (.agg #[.bool t0, .bool t1, .bool t2, .bool t3, .bool t4, .bool t5, .bool t6]) (.int .i64 3)).run Try.prog w = .ok (.bool t3) w := by kernel_rfl
theorem run_index7_4 (t0 t1 t2 t3 t4 t5 t6 : Bool) (w : World) : (Instr.index 96 (.agg #[.bool t0, .bool t1, .bool t2, .bool t3, .bool t4, .bool t5, .bool t6]) (.int .i64 4)).run Try.prog w = .ok (.bool t4) w := by kernel_rfl
theorem run_index7_5 (t0 t1 t2 t3 t4 t5 t6 : Bool) (w : World) : (Instr.index 96 (.agg #[.bool t0, .bool t1, .bool t2, .bool t3, .bool t4, .bool t5, .bool t6]) (.int .i64 5)).run Try.prog w = .ok (.bool t5) w := by kernel_rfl
theorem run_index7_6 (t0 t1 t2 t3 t4 t5 t6 : Bool) (w : World) : (Instr.index 96 (.agg #[.bool t0, .bool t1, .bool t2, .bool t3, .bool t4, .bool t5, .bool t6]) (.int .i64 6)).run Try.prog w = .ok (.bool t6) w := by kernel_rfl

set_option maxRecDepth 100000 in
set_option maxHeartbeats 4000000 in
theorem implReasons_bits (y l m : Int) (za : Option Addr) (zl zc : Nat) (ja : Option Addr) (jl jc : Nat) (zz jj : List Int) (n : Int) (f la : ByteArray) (bo z : Int) (c1 c2 c3 : Bool) (j : Int) (t0 t1 u2 u6 : Bool) (w : World) (hR : RulesIn w za zl ja jl zz jj) (hy : 1900 ≤ y ∧ y ≤ 2200) (hbo : 1900 ≤ bo ∧ bo ≤ 2100)
    (h0 : decide (y - bo < l) = t0) (h1 : decide (m < y - bo) = t1) (h2 : has zz z = u2) (h6 : has jj j = u6) :
    Calls Try.prog 49 #[.agg #[.int .i64 y, .int .i64 l, .int .i64 m, .slice za zl zc, .slice ja jl jc], .agg #[.int .i64 n, .string f, .string la, .int .i64 bo, .int .i64 z, .bool c1, .bool c2, .bool c3, .int .i64 j]] w fun e w' => e = .returned (.int .i64 (mask [t0, t1, !u2, !c1, c2, !c3, u6])) ∧ Below w.heap.size w w' := by
  have H0 := Lib.hid h0; have H1 := Lib.hid h1; have Hu2 := Lib.hid h2; have Hu6 := Lib.hid h6
  clear h0 h1 h2 h6
  have HA := Lib.hid ((atR_box w y l m za zl zc ja jl jc 26).below (boxed _ (.cells #[.int .i64 n, .string f, .string la, .int .i64 bo, .int .i64 z, .bool c1, .bool c2, .bool c3, .int .i64 j] 30)))
  have HB := Lib.hid (atD_box (w.alloc (.cells #[.int .i64 y, .int .i64 l, .int .i64 m, .slice za zl zc, .slice ja jl jc] 26)) n f la bo z c1 c2 c3 j 30)
  have hx : (w.alloc (.cells #[.int .i64 y, .int .i64 l, .int .i64 m, .slice za zl zc, .slice ja jl jc] 26)).heap.size = w.heap.size + 1 := by simp
  rw [hx] at HB
  clear hx
  have HW := Lib.hid (show Below w.heap.size w ((w.alloc (.cells #[.int .i64 y, .int .i64 l, .int .i64 m, .slice za zl zc, .slice ja jl jc] 26)).alloc (.cells #[.int .i64 n, .string f, .string la, .int .i64 bo, .int .i64 z, .bool c1, .bool c2, .bool c3, .int .i64 j] 30)) from (boxed _ _).alloc (by simp) _)
  have q0 : IntKind.i64.wrap (y - bo) = y - bo := IntWalk.i64_in _ (by omega)
  go_enter Try.func49, Try.ntmps49
  go_wp2_with fail
  have HR1 := Lib.hid (hR.below HW.out)
  generalize ((w.alloc (.cells #[.int .i64 y, .int .i64 l, .int .i64 m, .slice za zl zc, .slice ja jl jc] 26)).alloc (.cells #[.int .i64 n, .string f, .string la, .int .i64 bo, .int .i64 z, .bool c1, .bool c2, .bool c3, .int .i64 j] 30)) = w0 at HA HB HW HR1 ⊢
  have HW1 := Lib.hid (show Below w.heap.size w w0.drew from HW.out.drew)
  have HA1 := Lib.hid (HA.out.below (Below.drew (Below.refl _ w0))); have HB1 := Lib.hid (HB.out.below (Below.drew (Below.refl _ w0)))
  have HR := Lib.hid (HR1.out.below (Below.drew (Below.refl _ w0)))
  obtain ⟨w1, hw1⟩ : ∃ w1, w0.drew = w1 := ⟨_, rfl⟩
  rw [hw1] at HW1 HA1 HB1 HR
  have hsz1 := HW1.out.size
  obtain ⟨rb, hrb⟩ : ∃ rb, w.heap.size = rb := ⟨_, rfl⟩
  have HRB := Lib.hid hrb
  rw [hrb] at hsz1 HA1 HB1 HW1 ⊢
  obtain ⟨cb, hcb0⟩ : ∃ cb, rb + 1 = cb := ⟨_, rfl⟩
  rw [hcb0] at HB1 ⊢
  clear hR HA HB HW HR1 hrb
  have HWB := Lib.hid (fun b c => world7_below w1 96 t0 t1 (!u2) (!c1) c2 (!c3) u6 b c)
  have HP := Lib.hid (put7_cells w1 96 t0 t1 (!u2) (!c1) c2 (!c3) u6)
  obtain ⟨W, hW⟩ : ∃ W, world7 w1 96 t0 t1 (!u2) (!c1) c2 (!c3) u6 = W := ⟨_, rfl⟩
  have HWD := Lib.hid hW
  rw [hW] at HWB
  have HE1 := Lib.hid (show W false false = w1 by rw [← hW]; rfl); have HE2 := Lib.hid (show W true false = box7 w1 96 by rw [← hW]; rfl); have HE3 := Lib.hid (show W true true = put7 (box7 w1 96) w1.heap.size t0 t1 (!u2) (!c1) c2 (!c3) u6 by rw [← hW]; rfl)
  have hWB : ∀ b c, Below w1.heap.size w1 (W b c) := fun b c => HWB.out b c
  have CR1 := Lib.hid (fun b c => cell_later (hWB b c) HA1.out.2.1)
  have CR2 := Lib.hid (fun b c => cell_later (hWB b c) HA1.out.2.2.1)
  have CR3 := Lib.hid (fun b c => cell_later (hWB b c) HA1.out.2.2.2.1)
  have CR4 := Lib.hid (fun b c => cell_later (hWB b c) HA1.out.2.2.2.2)
  have CC4 := Lib.hid (fun b c => cell_later (hWB b c) HB1.out.2.2.2.2.1)
  have CC5 := Lib.hid (fun b c => cell_later (hWB b c) HB1.out.2.2.2.2.2.1)
  have CC6 := Lib.hid (fun b c => cell_later (hWB b c) HB1.out.2.2.2.2.2.2.1)
  have CC7 := Lib.hid (fun b c => cell_later (hWB b c) HB1.out.2.2.2.2.2.2.2.1)
  have CC8 := Lib.hid (fun b c => cell_later (hWB b c) HB1.out.2.2.2.2.2.2.2.2)
  refine wp_region_fixed (sz := 57) [2, 3, 5] (by kernel_rfl) (by kernel_rfl) (by kernel_rfl) 29 30 (by decide) (by decide) (by kernel_rfl) W (fun i => match i with | 0 => .int .i64 (y - bo) | 1 => .pointer (some ⟨rb, 1, none⟩) | 2 => .int .i64 l | 3 => .bool t0 | 4 => .int .i64 (y - bo) | 5 => .pointer (some ⟨rb, 2, none⟩) | 6 => .int .i64 m | 7 => .bool t1 | 8 => .pointer (some ⟨rb, 3, none⟩) | 9 => .slice za zl zc | 10 => .pointer (some ⟨cb, 0, none⟩) | 11 => .pointer (some ⟨cb, 4, none⟩) | 12 => .int .i64 z | 13 => .bool u2 | 14 => .bool (!u2) | 15 => .pointer (some ⟨cb, 5, none⟩) | 16 => .bool c1 | 17 => .bool (!c1) | 18 => .pointer (some ⟨cb, 6, none⟩) | 19 => .bool c2 | 20 => .pointer (some ⟨cb, 7, none⟩) | 21 => .bool c3 | 22 => .bool (!c3) | 23 => .pointer (some ⟨rb, 4, none⟩) | 24 => .slice ja jl jc | 25 => .pointer (some ⟨cb, 8, none⟩) | 26 => .int .i64 j | 27 => .bool u6 | 28 => .agg #[.bool t0, .bool t1, .bool (!u2), .bool (!c1), .bool c2, .bool (!c3), .bool u6] | 29 => .pointer (some ⟨w1.heap.size, 0, none⟩) | 30 => undef | _ => undef) rfl ?_ ?_ ?_
  · rw [← hW]; exact hw1.symm
  · intro i o ho
    match i, ho with
    | 0, ho =>
      cases ho
      intro ev b c hc hfn hb hm1 hn1 hcb hd
      have o5 : ev (.tmp 5) = .int .i64 (y - bo) := hb 5 (by simp)
      refine stepTo_gen fun K' hK => ?_
      simp [go_sem, stepTo, o5]
      exact hK _ _ ⟨(fun h => by cases h), rfl, rfl⟩
    | 1, ho =>
      cases ho
      intro ev b c hc hfn hb hm1 hn1 hcb hd
      have o2 : ev (.tmp 2) = .pointer (some ⟨rb, 0, none⟩) := hb 2 (by simp)
      refine stepTo_gen fun K' hK => ?_
      simp [go_sem, stepTo, o2]
      exact hK _ _ ⟨(fun h => by cases h), rfl, rfl⟩
    | 2, ho =>
      cases ho
      intro ev b c hc hfn hb hm1 hn1 hcb hd
      have d1 : ev (.tmp 17) = .pointer (some ⟨rb, 1, none⟩) := (hd { on := 1, ground := .data } (by simp) rfl).2.2 _ rfl
      refine stepTo_gen fun K' hK => ?_
      simp [go_sem, stepTo, d1, CR1.out b c]
      exact hK _ _ ⟨(fun h => by cases h), rfl, rfl⟩
    | 3, ho =>
      cases ho
      intro ev b c hc hfn hb hm1 hn1 hcb hd
      have d0 : ev (.tmp 16) = .int .i64 (y - bo) := (hd { on := 0, ground := .data } (by simp) rfl).2.2 _ rfl
      have d2 : ev (.tmp 18) = .int .i64 l := (hd { on := 2, ground := .data } (by simp) rfl).2.2 _ rfl
      refine stepTo_gen fun K' hK => ?_
      simp [go_sem, stepTo, d0, d2]
      exact hK _ _ ⟨(fun h => by cases h), congrArg Value.bool H0.out, rfl⟩
    | 4, ho =>
      cases ho
      intro ev b c hc hfn hb hm1 hn1 hcb hd
      have o5 : ev (.tmp 5) = .int .i64 (y - bo) := hb 5 (by simp)
      refine stepTo_gen fun K' hK => ?_
      simp [go_sem, stepTo, o5]
      exact hK _ _ ⟨(fun h => by cases h), rfl, rfl⟩
    | 5, ho =>
      cases ho
      intro ev b c hc hfn hb hm1 hn1 hcb hd
      have o2 : ev (.tmp 2) = .pointer (some ⟨rb, 0, none⟩) := hb 2 (by simp)
      refine stepTo_gen fun K' hK => ?_
      simp [go_sem, stepTo, o2]
      exact hK _ _ ⟨(fun h => by cases h), rfl, rfl⟩
    | 6, ho =>
      cases ho
      intro ev b c hc hfn hb hm1 hn1 hcb hd
      have d5 : ev (.tmp 21) = .pointer (some ⟨rb, 2, none⟩) := (hd { on := 5, ground := .data } (by simp) rfl).2.2 _ rfl
      refine stepTo_gen fun K' hK => ?_
      simp [go_sem, stepTo, d5, CR2.out b c]
      exact hK _ _ ⟨(fun h => by cases h), rfl, rfl⟩
    | 7, ho =>
      cases ho
      intro ev b c hc hfn hb hm1 hn1 hcb hd
      have d4 : ev (.tmp 20) = .int .i64 (y - bo) := (hd { on := 4, ground := .data } (by simp) rfl).2.2 _ rfl
      have d6 : ev (.tmp 22) = .int .i64 m := (hd { on := 6, ground := .data } (by simp) rfl).2.2 _ rfl
      refine stepTo_gen fun K' hK => ?_
      simp [go_sem, stepTo, d4, d6]
      exact hK _ _ ⟨(fun h => by cases h), congrArg Value.bool H1.out, rfl⟩
    | 8, ho =>
      cases ho
      intro ev b c hc hfn hb hm1 hn1 hcb hd
      have o2 : ev (.tmp 2) = .pointer (some ⟨rb, 0, none⟩) := hb 2 (by simp)
      refine stepTo_gen fun K' hK => ?_
      simp [go_sem, stepTo, o2]
      exact hK _ _ ⟨(fun h => by cases h), rfl, rfl⟩
    | 9, ho =>
      cases ho
      intro ev b c hc hfn hb hm1 hn1 hcb hd
      have d8 : ev (.tmp 24) = .pointer (some ⟨rb, 3, none⟩) := (hd { on := 8, ground := .data } (by simp) rfl).2.2 _ rfl
      refine stepTo_gen fun K' hK => ?_
      simp [go_sem, stepTo, d8, CR3.out b c]
      exact hK _ _ ⟨(fun h => by cases h), rfl, rfl⟩
    | 10, ho =>
      cases ho
      intro ev b c hc hfn hb hm1 hn1 hcb hd
      have o3 : ev (.tmp 3) = .pointer (some ⟨cb, 0, none⟩) := hb 3 (by simp)
      refine stepTo_gen fun K' hK => ?_
      simp [go_sem, stepTo, o3]
      exact hK _ _ ⟨(fun h => by cases h), rfl, rfl⟩
    | 11, ho =>
      cases ho
      intro ev b c hc hfn hb hm1 hn1 hcb hd
      have d10 : ev (.tmp 26) = .pointer (some ⟨cb, 0, none⟩) := (hd { on := 10, ground := .data } (by simp) rfl).2.2 _ rfl
      refine stepTo_gen fun K' hK => ?_
      simp [go_sem, stepTo, d10]
      exact hK _ _ ⟨(fun h => by cases h), rfl, rfl⟩
    | 12, ho =>
      cases ho
      intro ev b c hc hfn hb hm1 hn1 hcb hd
      have d11 : ev (.tmp 27) = .pointer (some ⟨cb, 4, none⟩) := (hd { on := 11, ground := .data } (by simp) rfl).2.2 _ rfl
      refine stepTo_gen fun K' hK => ?_
      simp [go_sem, stepTo, d11, CC4.out b c]
      exact hK _ _ ⟨(fun h => by cases h), rfl, rfl⟩
    | 13, ho =>
      cases ho
      intro ev b c hc hfn hb hm1 hn1 hcb hd
      have d9 : ev (.tmp 25) = .slice za zl zc := (hd { on := 9, ground := .data } (by simp) rfl).2.2 _ rfl
      have d12 : ev (.tmp 28) = .int .i64 z := (hd { on := 12, ground := .data } (by simp) rfl).2.2 _ rfl
      refine stepTo_gen fun K' hK => ?_
      simp [go_sem, stepTo, hfn, d9, d12]
      refine (slicesContains_any za zl zc zz z (W b c) HR.out.1 HR.out.2.1 (HR.out.2.2.1.below (hWB b c))).mono ?_; rintro e w2 ⟨rfl, rfl⟩
      exact ⟨_, rfl, hK _ _ ⟨(fun h => by cases h), congrArg Value.bool Hu2.out, rfl⟩⟩
    | 14, ho =>
      cases ho
      intro ev b c hc hfn hb hm1 hn1 hcb hd
      have d13 : ev (.tmp 29) = .bool u2 := (hd { on := 13, ground := .data } (by simp) rfl).2.2 _ rfl
      refine stepTo_gen fun K' hK => ?_
      simp [go_sem, stepTo, d13]
      exact hK _ _ ⟨(fun h => by cases h), rfl, rfl⟩
    | 15, ho =>
      cases ho
      intro ev b c hc hfn hb hm1 hn1 hcb hd
      have o3 : ev (.tmp 3) = .pointer (some ⟨cb, 0, none⟩) := hb 3 (by simp)
      refine stepTo_gen fun K' hK => ?_
      simp [go_sem, stepTo, o3]
      exact hK _ _ ⟨(fun h => by cases h), rfl, rfl⟩
    | 16, ho =>
      cases ho
      intro ev b c hc hfn hb hm1 hn1 hcb hd
      have d15 : ev (.tmp 31) = .pointer (some ⟨cb, 5, none⟩) := (hd { on := 15, ground := .data } (by simp) rfl).2.2 _ rfl
      refine stepTo_gen fun K' hK => ?_
      simp [go_sem, stepTo, d15, CC5.out b c]
      exact hK _ _ ⟨(fun h => by cases h), rfl, rfl⟩
    | 17, ho =>
      cases ho
      intro ev b c hc hfn hb hm1 hn1 hcb hd
      have d16 : ev (.tmp 32) = .bool c1 := (hd { on := 16, ground := .data } (by simp) rfl).2.2 _ rfl
      refine stepTo_gen fun K' hK => ?_
      simp [go_sem, stepTo, d16]
      exact hK _ _ ⟨(fun h => by cases h), rfl, rfl⟩
    | 18, ho =>
      cases ho
      intro ev b c hc hfn hb hm1 hn1 hcb hd
      have o3 : ev (.tmp 3) = .pointer (some ⟨cb, 0, none⟩) := hb 3 (by simp)
      refine stepTo_gen fun K' hK => ?_
      simp [go_sem, stepTo, o3]
      exact hK _ _ ⟨(fun h => by cases h), rfl, rfl⟩
    | 19, ho =>
      cases ho
      intro ev b c hc hfn hb hm1 hn1 hcb hd
      have d18 : ev (.tmp 34) = .pointer (some ⟨cb, 6, none⟩) := (hd { on := 18, ground := .data } (by simp) rfl).2.2 _ rfl
      refine stepTo_gen fun K' hK => ?_
      simp [go_sem, stepTo, d18, CC6.out b c]
      exact hK _ _ ⟨(fun h => by cases h), rfl, rfl⟩
    | 20, ho =>
      cases ho
      intro ev b c hc hfn hb hm1 hn1 hcb hd
      have o3 : ev (.tmp 3) = .pointer (some ⟨cb, 0, none⟩) := hb 3 (by simp)
      refine stepTo_gen fun K' hK => ?_
      simp [go_sem, stepTo, o3]
      exact hK _ _ ⟨(fun h => by cases h), rfl, rfl⟩
    | 21, ho =>
      cases ho
      intro ev b c hc hfn hb hm1 hn1 hcb hd
      have d20 : ev (.tmp 36) = .pointer (some ⟨cb, 7, none⟩) := (hd { on := 20, ground := .data } (by simp) rfl).2.2 _ rfl
      refine stepTo_gen fun K' hK => ?_
      simp [go_sem, stepTo, d20, CC7.out b c]
      exact hK _ _ ⟨(fun h => by cases h), rfl, rfl⟩
    | 22, ho =>
      cases ho
      intro ev b c hc hfn hb hm1 hn1 hcb hd
      have d21 : ev (.tmp 37) = .bool c3 := (hd { on := 21, ground := .data } (by simp) rfl).2.2 _ rfl
      refine stepTo_gen fun K' hK => ?_
      simp [go_sem, stepTo, d21]
      exact hK _ _ ⟨(fun h => by cases h), rfl, rfl⟩
    | 23, ho =>
      cases ho
      intro ev b c hc hfn hb hm1 hn1 hcb hd
      have o2 : ev (.tmp 2) = .pointer (some ⟨rb, 0, none⟩) := hb 2 (by simp)
      refine stepTo_gen fun K' hK => ?_
      simp [go_sem, stepTo, o2]
      exact hK _ _ ⟨(fun h => by cases h), rfl, rfl⟩
    | 24, ho =>
      cases ho
      intro ev b c hc hfn hb hm1 hn1 hcb hd
      have d23 : ev (.tmp 39) = .pointer (some ⟨rb, 4, none⟩) := (hd { on := 23, ground := .data } (by simp) rfl).2.2 _ rfl
      refine stepTo_gen fun K' hK => ?_
      simp [go_sem, stepTo, d23, CR4.out b c]
      exact hK _ _ ⟨(fun h => by cases h), rfl, rfl⟩
    | 25, ho =>
      cases ho
      intro ev b c hc hfn hb hm1 hn1 hcb hd
      have o3 : ev (.tmp 3) = .pointer (some ⟨cb, 0, none⟩) := hb 3 (by simp)
      refine stepTo_gen fun K' hK => ?_
      simp [go_sem, stepTo, o3]
      exact hK _ _ ⟨(fun h => by cases h), rfl, rfl⟩
    | 26, ho =>
      cases ho
      intro ev b c hc hfn hb hm1 hn1 hcb hd
      have d25 : ev (.tmp 41) = .pointer (some ⟨cb, 8, none⟩) := (hd { on := 25, ground := .data } (by simp) rfl).2.2 _ rfl
      refine stepTo_gen fun K' hK => ?_
      simp [go_sem, stepTo, d25, CC8.out b c]
      exact hK _ _ ⟨(fun h => by cases h), rfl, rfl⟩
    | 27, ho =>
      cases ho
      intro ev b c hc hfn hb hm1 hn1 hcb hd
      have d24 : ev (.tmp 40) = .slice ja jl jc := (hd { on := 24, ground := .data } (by simp) rfl).2.2 _ rfl
      have d26 : ev (.tmp 42) = .int .i64 j := (hd { on := 26, ground := .data } (by simp) rfl).2.2 _ rfl
      refine stepTo_gen fun K' hK => ?_
      simp [go_sem, stepTo, hfn, d24, d26]
      refine (slicesContains_any ja jl jc jj j (W b c) HR.out.2.2.2.1 HR.out.2.2.2.2.1 (HR.out.2.2.2.2.2.below (hWB b c))).mono ?_; rintro e w2 ⟨rfl, rfl⟩
      exact ⟨_, rfl, hK _ _ ⟨(fun h => by cases h), congrArg Value.bool Hu6.out, rfl⟩⟩
    | 28, ho =>
      cases ho
      intro ev b c hc hfn hb hm1 hn1 hcb hd
      have d3 : ev (.tmp 19) = .bool t0 := (hd { on := 3, ground := .data } (by simp) rfl).2.2 _ rfl
      have d7 : ev (.tmp 23) = .bool t1 := (hd { on := 7, ground := .data } (by simp) rfl).2.2 _ rfl
      have d14 : ev (.tmp 30) = .bool (!u2) := (hd { on := 14, ground := .data } (by simp) rfl).2.2 _ rfl
      have d17 : ev (.tmp 33) = .bool (!c1) := (hd { on := 17, ground := .data } (by simp) rfl).2.2 _ rfl
      have d19 : ev (.tmp 35) = .bool c2 := (hd { on := 19, ground := .data } (by simp) rfl).2.2 _ rfl
      have d22 : ev (.tmp 38) = .bool (!c3) := (hd { on := 22, ground := .data } (by simp) rfl).2.2 _ rfl
      have d27 : ev (.tmp 43) = .bool u6 := (hd { on := 27, ground := .data } (by simp) rfl).2.2 _ rfl
      refine stepTo_gen fun K' hK => ?_
      simp [go_sem, stepTo, d3, d7, d14, d17, d19, d22, d27]
      exact hK _ _ ⟨(fun h => by cases h), rfl, rfl⟩
    | 29, ho =>
      cases ho
      intro ev b c hc hfn hb hm1 hn1 hcb hd
      have e1 := hm1 rfl
      subst e1
      have e2 : c = false := by cases c; rfl; exact absurd (hcb rfl) (by simp)
      subst e2
      rw [HE1.out]
      refine stepTo_gen fun K' hK => ?_
      simp [go_sem, stepTo]
      exact hK _ _ ⟨(fun h => by cases h), rfl, HE2.out.symm⟩
    | 30, ho =>
      cases ho
      intro ev b c hc hfn hb hm1 hn1 hcb hd
      have d29 : ev (.tmp 6) = .pointer (some ⟨w1.heap.size, 0, none⟩) := (hd { on := 29, ground := .data } (by simp) rfl).2.2 _ rfl
      have d28 : ev (.tmp 44) = .agg #[.bool t0, .bool t1, .bool (!u2), .bool (!c1), .bool c2, .bool (!c3), .bool u6] := (hd { on := 28, ground := .data } (by simp) rfl).2.2 _ rfl
      have e1 : b = true := (hd { on := 29, ground := .data } (by simp) rfl).1 rfl
      subst e1
      have e2 := hn1 rfl
      subst e2
      have B := box7_cell w1 96
      obtain ⟨b0, f0⟩ := B 0 (by omega); obtain ⟨b1, f1⟩ := B 1 (by omega); obtain ⟨b2, f2⟩ := B 2 (by omega); obtain ⟨b3, f3⟩ := B 3 (by omega); obtain ⟨b4, f4⟩ := B 4 (by omega); obtain ⟨b5, f5⟩ := B 5 (by omega); obtain ⟨b6, f6⟩ := B 6 (by omega)
      rw [HE2.out]
      refine stepTo_gen fun K' hK => ?_
      simp [go_sem, stepTo, d29, d28, b0, b1, b2, b3, b4, b5, b6, f0, f1, f2, f3, f4, f5, f6]
      exact hK _ _ ⟨(fun h => rfl), rfl, HE3.out.symm⟩
    | n + 31, ho => simp at ho
  · intro a hb hs hdf hf
    have h6 : a.eval (.tmp 6) = .pointer (some ⟨w1.heap.size, 0, none⟩) := hf 29 _ rfl
    have HW4 := Lib.hid (HW1.out.trans ((HWB.out true true).mono hsz1))
    obtain ⟨k0, k1, k2, k3, k4, k5, k6⟩ := HP.out (W true true) (by rw [← HWD.out]; rfl)
    generalize W true true = w4 at HW4 k0 k1 k2 k3 k4 k5 k6 ⊢
    obtain ⟨tmps, dfs⟩ := a
    simp only at hdf
    subst hdf
    obtain ⟨ls⟩ := tmps
    clear hf hb CR1 CR2 CR3 CR4 CC4 CC5 CC6 CC7 CC8 HP hWB HWB HE1 HE2 HE3 HWD hW
    match ls, hs with
    | x0 :: x1 :: x2 :: x3 :: x4 :: x5 :: x6 :: x7 :: x8 :: x9 :: x10 :: x11 :: x12 :: x13 :: x14 :: x15 :: x16 :: x17 :: x18 :: x19 :: x20 :: x21 :: x22 :: x23 :: x24 :: x25 :: x26 :: x27 :: x28 :: x29 :: x30 :: x31 :: x32 :: x33 :: x34 :: x35 :: x36 :: x37 :: x38 :: x39 :: x40 :: x41 :: x42 :: x43 :: x44 :: x45 :: x46 :: x47 :: x48 :: x49 :: x50 :: x51 :: x52 :: x53 :: x54 :: x55 :: x56 :: [], _ =>
    obtain rfl : x6 = .pointer (some ⟨w1.heap.size, 0, none⟩) := h6
    go_wp2_with fail
    go_loop [7, 8, 9, 46] (fun r _ _ k => ∃ i : Nat, i ≤ 7 ∧ k = .int .i64 i ∧ r = .int .i64 (mask ([t0, t1, !u2, !c1, c2, !c3, u6].take i))) (fun _ _ _ k => 7 - (intOf k).toNat)
    case atStart => exact ⟨0, Nat.zero_le _, rfl, rfl⟩
    case round =>
      obtain ⟨i, hi, rfl, rfl⟩ := hrel
      have hc8 : i = 0 ∨ i = 1 ∨ i = 2 ∨ i = 3 ∨ i = 4 ∨ i = 5 ∨ i = 6 ∨ i = 7 := by omega
      rcases hc8 with rfl | rfl | rfl | rfl | rfl | rfl | rfl | rfl
      · cases t0
        · obtain ⟨M, hM⟩ : ∃ M, mask ([false, t1, !u2, !c1, c2, !c3, u6].take 0) = M := ⟨_, rfl⟩
          have hb := mask7_lt [false, t1, !u2, !c1, c2, !c3, u6] 0 (by omega)
          have hS : mask ([false, t1, !u2, !c1, c2, !c3, u6].take 1) = M + 0 := by rw [mask7 (false) (t1) (!u2) (!c1) (c2) (!c3) (u6) 0 (false) rfl, hM]; rfl
          rw [hM] at hb ⊢
          have HS := Lib.hid hS
          clear hS hM
          clear hb
          have hix := run_index7_0 (false) (t1) (!u2) (!c1) (c2) (!c3) (u6) w4
          go_wp2_with fail
          go_round
          case rel => exact ⟨1, by omega, by go_num, by rw [HS.out]; simp⟩
          case measure => simp [intOf]
        · obtain ⟨M, hM⟩ : ∃ M, mask ([true, t1, !u2, !c1, c2, !c3, u6].take 0) = M := ⟨_, rfl⟩
          have hb := mask7_lt [true, t1, !u2, !c1, c2, !c3, u6] 0 (by omega)
          have hS : mask ([true, t1, !u2, !c1, c2, !c3, u6].take 1) = M + 1 := by rw [mask7 (true) (t1) (!u2) (!c1) (c2) (!c3) (u6) 0 (true) rfl, hM]; rfl
          rw [hM] at hb ⊢
          have HS := Lib.hid hS
          clear hS hM
          have ho : bits .or .i64 M 1 = M + 1 := or_pow (k := 0) (by omega) hb.1 hb.2
          clear hb
          have hix := run_index7_0 (true) (t1) (!u2) (!c1) (c2) (!c3) (u6) w4
          go_wp2_with fail
          go_round
          case rel => exact ⟨1, by omega, by go_num, by rw [HS.out]⟩
          case measure => simp [intOf]
      · cases t1
        · obtain ⟨M, hM⟩ : ∃ M, mask ([t0, false, !u2, !c1, c2, !c3, u6].take 1) = M := ⟨_, rfl⟩
          have hb := mask7_lt [t0, false, !u2, !c1, c2, !c3, u6] 1 (by omega)
          have hS : mask ([t0, false, !u2, !c1, c2, !c3, u6].take 2) = M + 0 := by rw [mask7 (t0) (false) (!u2) (!c1) (c2) (!c3) (u6) 1 (false) rfl, hM]; rfl
          rw [hM] at hb ⊢
          have HS := Lib.hid hS
          clear hS hM
          clear hb
          have hix := run_index7_1 (t0) (false) (!u2) (!c1) (c2) (!c3) (u6) w4
          go_wp2_with fail
          go_round
          case rel => exact ⟨2, by omega, by go_num, by rw [HS.out]; simp⟩
          case measure => simp [intOf]
        · obtain ⟨M, hM⟩ : ∃ M, mask ([t0, true, !u2, !c1, c2, !c3, u6].take 1) = M := ⟨_, rfl⟩
          have hb := mask7_lt [t0, true, !u2, !c1, c2, !c3, u6] 1 (by omega)
          have hS : mask ([t0, true, !u2, !c1, c2, !c3, u6].take 2) = M + 2 := by rw [mask7 (t0) (true) (!u2) (!c1) (c2) (!c3) (u6) 1 (true) rfl, hM]; rfl
          rw [hM] at hb ⊢
          have HS := Lib.hid hS
          clear hS hM
          have ho : bits .or .i64 M 2 = M + 2 := or_pow (k := 1) (by omega) hb.1 hb.2
          clear hb
          have hix := run_index7_1 (t0) (true) (!u2) (!c1) (c2) (!c3) (u6) w4
          go_wp2_with fail
          go_round
          case rel => exact ⟨2, by omega, by go_num, by rw [HS.out]⟩
          case measure => simp [intOf]
      · cases u2
        · obtain ⟨M, hM⟩ : ∃ M, mask ([t0, t1, !false, !c1, c2, !c3, u6].take 2) = M := ⟨_, rfl⟩
          have hb := mask7_lt [t0, t1, !false, !c1, c2, !c3, u6] 2 (by omega)
          have hS : mask ([t0, t1, !false, !c1, c2, !c3, u6].take 3) = M + 4 := by rw [mask7 (t0) (t1) (!false) (!c1) (c2) (!c3) (u6) 2 (!false) rfl, hM]; rfl
          rw [hM] at hb ⊢
          have HS := Lib.hid hS
          clear hS hM
          have ho : bits .or .i64 M 4 = M + 4 := or_pow (k := 2) (by omega) hb.1 hb.2
          clear hb
          have hix := run_index7_2 (t0) (t1) (true) (!c1) (c2) (!c3) (u6) w4
          go_wp2_with fail
          go_round
          case rel => exact ⟨3, by omega, by go_num, by rw [HS.out]⟩
          case measure => simp [intOf]
        · obtain ⟨M, hM⟩ : ∃ M, mask ([t0, t1, !true, !c1, c2, !c3, u6].take 2) = M := ⟨_, rfl⟩
          have hb := mask7_lt [t0, t1, !true, !c1, c2, !c3, u6] 2 (by omega)
          have hS : mask ([t0, t1, !true, !c1, c2, !c3, u6].take 3) = M + 0 := by rw [mask7 (t0) (t1) (!true) (!c1) (c2) (!c3) (u6) 2 (!true) rfl, hM]; rfl
          rw [hM] at hb ⊢
          have HS := Lib.hid hS
          clear hS hM
          clear hb
          have hix := run_index7_2 (t0) (t1) (false) (!c1) (c2) (!c3) (u6) w4
          go_wp2_with fail
          go_round
          case rel => exact ⟨3, by omega, by go_num, by rw [HS.out]; simp⟩
          case measure => simp [intOf]
      · cases c1
        · obtain ⟨M, hM⟩ : ∃ M, mask ([t0, t1, !u2, !false, c2, !c3, u6].take 3) = M := ⟨_, rfl⟩
          have hb := mask7_lt [t0, t1, !u2, !false, c2, !c3, u6] 3 (by omega)
          have hS : mask ([t0, t1, !u2, !false, c2, !c3, u6].take 4) = M + 8 := by rw [mask7 (t0) (t1) (!u2) (!false) (c2) (!c3) (u6) 3 (!false) rfl, hM]; rfl
          rw [hM] at hb ⊢
          have HS := Lib.hid hS
          clear hS hM
          have ho : bits .or .i64 M 8 = M + 8 := or_pow (k := 3) (by omega) hb.1 hb.2
          clear hb
          have hix := run_index7_3 (t0) (t1) (!u2) (true) (c2) (!c3) (u6) w4
          go_wp2_with fail
          go_round
          case rel => exact ⟨4, by omega, by go_num, by rw [HS.out]⟩
          case measure => simp [intOf]
        · obtain ⟨M, hM⟩ : ∃ M, mask ([t0, t1, !u2, !true, c2, !c3, u6].take 3) = M := ⟨_, rfl⟩
          have hb := mask7_lt [t0, t1, !u2, !true, c2, !c3, u6] 3 (by omega)
          have hS : mask ([t0, t1, !u2, !true, c2, !c3, u6].take 4) = M + 0 := by rw [mask7 (t0) (t1) (!u2) (!true) (c2) (!c3) (u6) 3 (!true) rfl, hM]; rfl
          rw [hM] at hb ⊢
          have HS := Lib.hid hS
          clear hS hM
          clear hb
          have hix := run_index7_3 (t0) (t1) (!u2) (false) (c2) (!c3) (u6) w4
          go_wp2_with fail
          go_round
          case rel => exact ⟨4, by omega, by go_num, by rw [HS.out]; simp⟩
          case measure => simp [intOf]
      · cases c2
        · obtain ⟨M, hM⟩ : ∃ M, mask ([t0, t1, !u2, !c1, false, !c3, u6].take 4) = M := ⟨_, rfl⟩
          have hb := mask7_lt [t0, t1, !u2, !c1, false, !c3, u6] 4 (by omega)
          have hS : mask ([t0, t1, !u2, !c1, false, !c3, u6].take 5) = M + 0 := by rw [mask7 (t0) (t1) (!u2) (!c1) (false) (!c3) (u6) 4 (false) rfl, hM]; rfl
          rw [hM] at hb ⊢
          have HS := Lib.hid hS
          clear hS hM
          clear hb
          have hix := run_index7_4 (t0) (t1) (!u2) (!c1) (false) (!c3) (u6) w4
          go_wp2_with fail
          go_round
          case rel => exact ⟨5, by omega, by go_num, by rw [HS.out]; simp⟩
          case measure => simp [intOf]
        · obtain ⟨M, hM⟩ : ∃ M, mask ([t0, t1, !u2, !c1, true, !c3, u6].take 4) = M := ⟨_, rfl⟩
          have hb := mask7_lt [t0, t1, !u2, !c1, true, !c3, u6] 4 (by omega)
          have hS : mask ([t0, t1, !u2, !c1, true, !c3, u6].take 5) = M + 16 := by rw [mask7 (t0) (t1) (!u2) (!c1) (true) (!c3) (u6) 4 (true) rfl, hM]; rfl
          rw [hM] at hb ⊢
          have HS := Lib.hid hS
          clear hS hM
          have ho : bits .or .i64 M 16 = M + 16 := or_pow (k := 4) (by omega) hb.1 hb.2
          clear hb
          have hix := run_index7_4 (t0) (t1) (!u2) (!c1) (true) (!c3) (u6) w4
          go_wp2_with fail
          go_round
          case rel => exact ⟨5, by omega, by go_num, by rw [HS.out]⟩
          case measure => simp [intOf]
      · cases c3
        · obtain ⟨M, hM⟩ : ∃ M, mask ([t0, t1, !u2, !c1, c2, !false, u6].take 5) = M := ⟨_, rfl⟩
          have hb := mask7_lt [t0, t1, !u2, !c1, c2, !false, u6] 5 (by omega)
          have hS : mask ([t0, t1, !u2, !c1, c2, !false, u6].take 6) = M + 32 := by rw [mask7 (t0) (t1) (!u2) (!c1) (c2) (!false) (u6) 5 (!false) rfl, hM]; rfl
          rw [hM] at hb ⊢
          have HS := Lib.hid hS
          clear hS hM
          have ho : bits .or .i64 M 32 = M + 32 := or_pow (k := 5) (by omega) hb.1 hb.2
          clear hb
          have hix := run_index7_5 (t0) (t1) (!u2) (!c1) (c2) (true) (u6) w4
          go_wp2_with fail
          go_round
          case rel => exact ⟨6, by omega, by go_num, by rw [HS.out]⟩
          case measure => simp [intOf]
        · obtain ⟨M, hM⟩ : ∃ M, mask ([t0, t1, !u2, !c1, c2, !true, u6].take 5) = M := ⟨_, rfl⟩
          have hb := mask7_lt [t0, t1, !u2, !c1, c2, !true, u6] 5 (by omega)
          have hS : mask ([t0, t1, !u2, !c1, c2, !true, u6].take 6) = M + 0 := by rw [mask7 (t0) (t1) (!u2) (!c1) (c2) (!true) (u6) 5 (!true) rfl, hM]; rfl
          rw [hM] at hb ⊢
          have HS := Lib.hid hS
          clear hS hM
          clear hb
          have hix := run_index7_5 (t0) (t1) (!u2) (!c1) (c2) (false) (u6) w4
          go_wp2_with fail
          go_round
          case rel => exact ⟨6, by omega, by go_num, by rw [HS.out]; simp⟩
          case measure => simp [intOf]
      · cases u6
        · obtain ⟨M, hM⟩ : ∃ M, mask ([t0, t1, !u2, !c1, c2, !c3, false].take 6) = M := ⟨_, rfl⟩
          have hb := mask7_lt [t0, t1, !u2, !c1, c2, !c3, false] 6 (by omega)
          have hS : mask ([t0, t1, !u2, !c1, c2, !c3, false].take 7) = M + 0 := by rw [mask7 (t0) (t1) (!u2) (!c1) (c2) (!c3) (false) 6 (false) rfl, hM]; rfl
          rw [hM] at hb ⊢
          have HS := Lib.hid hS
          clear hS hM
          clear hb
          have hix := run_index7_6 (t0) (t1) (!u2) (!c1) (c2) (!c3) (false) w4
          go_wp2_with fail
          go_round
          case rel => exact ⟨7, by omega, by go_num, by rw [HS.out]; simp⟩
          case measure => simp [intOf]
        · obtain ⟨M, hM⟩ : ∃ M, mask ([t0, t1, !u2, !c1, c2, !c3, true].take 6) = M := ⟨_, rfl⟩
          have hb := mask7_lt [t0, t1, !u2, !c1, c2, !c3, true] 6 (by omega)
          have hS : mask ([t0, t1, !u2, !c1, c2, !c3, true].take 7) = M + 64 := by rw [mask7 (t0) (t1) (!u2) (!c1) (c2) (!c3) (true) 6 (true) rfl, hM]; rfl
          rw [hM] at hb ⊢
          have HS := Lib.hid hS
          clear hS hM
          have ho : bits .or .i64 M 64 = M + 64 := or_pow (k := 6) (by omega) hb.1 hb.2
          clear hb
          have hix := run_index7_6 (t0) (t1) (!u2) (!c1) (c2) (!c3) (true) w4
          go_wp2_with fail
          go_round
          case rel => exact ⟨7, by omega, by go_num, by rw [HS.out]⟩
          case measure => simp [intOf]
      · go_wp2_with fail
        go_ret
        exact ⟨rfl, by rw [HRB.out]; exact HW4.out⟩

theorem implReasons_any (y l m : Int) (za : Option Addr) (zl zc : Nat) (ja : Option Addr) (jl jc : Nat) (zz jj : List Int) (n : Int) (f la : ByteArray) (bo z : Int) (c1 c2 c3 : Bool) (j : Int) (w : World) (hR : RulesIn w za zl ja jl zz jj) (hy : 1900 ≤ y ∧ y ≤ 2200) (hbo : 1900 ≤ bo ∧ bo ≤ 2100) :
    Calls Try.prog 49 #[.agg #[.int .i64 y, .int .i64 l, .int .i64 m, .slice za zl zc, .slice ja jl jc], .agg #[.int .i64 n, .string f, .string la, .int .i64 bo, .int .i64 z, .bool c1, .bool c2, .bool c3, .int .i64 j]] w fun e w' => e = .returned (.int .i64 (reasons ⟨y, l, m, zz, jj⟩ ⟨⟨n, f, la, bo, z⟩, c1, c2, c3, j⟩)) ∧ Below w.heap.size w w' :=
  implReasons_bits y l m za zl zc ja jl jc zz jj n f la bo z c1 c2 c3 j _ _ _ _ w hR hy hbo rfl rfl rfl rfl

/-- bools lie in block b, from its first cell on -/
def BoolsAt (w : World) (b : Nat) (ts : List Bool) : Prop := ∀ (i : Nat) t, ts[i]? = some t → w.cell? ⟨b, i, none⟩ = some (.bool t)
theorem BoolsAt.below {w w' : World} {b : Nat} {ts : List Bool} (h : BoolsAt w b ts) (hb : Below w.heap.size w w') : BoolsAt w' b ts := fun i t ht => cell_later hb (h i t ht)
theorem bools_new (w : World) (T : TypeId) (t0 t1 t2 t3 t4 t5 t6 : Bool) : BoolsAt (w.alloc (.cells #[.bool t0, .bool t1, .bool t2, .bool t3, .bool t4, .bool t5, .bool t6] T)) w.heap.size [t0, t1, t2, t3, t4, t5, t6] := by
  intro i t ht
  have h : (w.alloc (.cells #[.bool t0, .bool t1, .bool t2, .bool t3, .bool t4, .bool t5, .bool t6] T)).heap[w.heap.size]? = some (.cells #[.bool t0, .bool t1, .bool t2, .bool t3, .bool t4, .bool t5, .bool t6] T) := heap_alloc_new w _
  unfold World.cell?; rw [h]
  match i, ht with
  | 0, ht | 1, ht | 2, ht | 3, ht | 4, ht | 5, ht | 6, ht => cases ht; rfl
  | n + 7, ht => simp at ht
def SaysBools (ts : List Bool) (w : World) (e : Ending) (w' : World) : Prop := ∃ b, e = .returned (.slice (some ⟨b, 0, none⟩) 7 7) ∧ w.heap.size ≤ b ∧ BoolsAt w' b ts ∧ Below w.heap.size w w'
def lit7 (w : World) (T : TypeId) (t0 t1 t2 t3 t4 t5 t6 : Bool) (b _c : Bool) : World := cond b (w.alloc (.cells #[.bool t0, .bool t1, .bool t2, .bool t3, .bool t4, .bool t5, .bool t6] T)) w
theorem lit7_below (w : World) (T : TypeId) (t0 t1 t2 t3 t4 t5 t6 b c : Bool) : Below w.heap.size w (lit7 w T t0 t1 t2 t3 t4 t5 t6 b c) := by
  cases b
  · exact Below.refl _ _
  · exact (Below.refl _ _).alloc (Nat.le_refl _) _

set_option maxRecDepth 100000 in
set_option maxHeartbeats 4000000 in
theorem specTruths_bits (y l m : Int) (za : Option Addr) (zl zc : Nat) (ja : Option Addr) (jl jc : Nat) (zz jj : List Int) (n : Int) (f la : ByteArray) (bo z : Int) (c1 c2 c3 : Bool) (j : Int) (t0 t1 u2 u6 : Bool) (w : World) (hR : RulesIn w za zl ja jl zz jj) (hy : 1900 ≤ y ∧ y ≤ 2200) (hbo : 1900 ≤ bo ∧ bo ≤ 2100)
    (h0 : decide (y - bo < l) = t0) (h1 : decide (m < y - bo) = t1) (h2 : has zz z = u2) (h6 : has jj j = u6) :
    Calls Try.prog 54 #[.agg #[.int .i64 y, .int .i64 l, .int .i64 m, .slice za zl zc, .slice ja jl jc], .agg #[.int .i64 n, .string f, .string la, .int .i64 bo, .int .i64 z, .bool c1, .bool c2, .bool c3, .int .i64 j]] w (SaysBools [t0, t1, !u2, !c1, c2, !c3, u6] w) := by
  have H0 := Lib.hid h0; have H1 := Lib.hid h1; have Hu2 := Lib.hid h2; have Hu6 := Lib.hid h6
  clear h0 h1 h2 h6
  have HA := Lib.hid ((atR_box w y l m za zl zc ja jl jc 26).below (boxed _ (.cells #[.int .i64 n, .string f, .string la, .int .i64 bo, .int .i64 z, .bool c1, .bool c2, .bool c3, .int .i64 j] 30)))
  have HB := Lib.hid (atD_box (w.alloc (.cells #[.int .i64 y, .int .i64 l, .int .i64 m, .slice za zl zc, .slice ja jl jc] 26)) n f la bo z c1 c2 c3 j 30)
  have hx : (w.alloc (.cells #[.int .i64 y, .int .i64 l, .int .i64 m, .slice za zl zc, .slice ja jl jc] 26)).heap.size = w.heap.size + 1 := by simp
  rw [hx] at HB
  clear hx
  have HW := Lib.hid (show Below w.heap.size w ((w.alloc (.cells #[.int .i64 y, .int .i64 l, .int .i64 m, .slice za zl zc, .slice ja jl jc] 26)).alloc (.cells #[.int .i64 n, .string f, .string la, .int .i64 bo, .int .i64 z, .bool c1, .bool c2, .bool c3, .int .i64 j] 30)) from (boxed _ _).alloc (by simp) _)
  have q0 : IntKind.i64.wrap (y - bo) = y - bo := IntWalk.i64_in _ (by omega)
  go_enter Try.func54, Try.ntmps54
  go_wp2_with fail
  have HR1 := Lib.hid (hR.below HW.out)
  generalize ((w.alloc (.cells #[.int .i64 y, .int .i64 l, .int .i64 m, .slice za zl zc, .slice ja jl jc] 26)).alloc (.cells #[.int .i64 n, .string f, .string la, .int .i64 bo, .int .i64 z, .bool c1, .bool c2, .bool c3, .int .i64 j] 30)) = w0 at HA HB HW HR1 ⊢
  have HW1 := Lib.hid (show Below w.heap.size w w0.drew from HW.out.drew)
  have HA1 := Lib.hid (HA.out.below (Below.drew (Below.refl _ w0))); have HB1 := Lib.hid (HB.out.below (Below.drew (Below.refl _ w0)))
  have HR := Lib.hid (HR1.out.below (Below.drew (Below.refl _ w0)))
  obtain ⟨w1, hw1⟩ : ∃ w1, w0.drew = w1 := ⟨_, rfl⟩
  rw [hw1] at HW1 HA1 HB1 HR
  have hsz1 := HW1.out.size
  obtain ⟨rb, hrb⟩ : ∃ rb, w.heap.size = rb := ⟨_, rfl⟩
  have HRB := Lib.hid hrb
  rw [hrb] at hsz1 HA1 HB1 HW1 ⊢
  obtain ⟨cb, hcb0⟩ : ∃ cb, rb + 1 = cb := ⟨_, rfl⟩
  rw [hcb0] at HB1 ⊢
  clear hR HA HB HW HR1 hrb
  have HWB := Lib.hid (fun b c => lit7_below w1 4 t0 t1 (!u2) (!c1) c2 (!c3) u6 b c)
  have HP := Lib.hid (bools_new w1 4 t0 t1 (!u2) (!c1) c2 (!c3) u6)
  obtain ⟨W, hW⟩ : ∃ W, lit7 w1 4 t0 t1 (!u2) (!c1) c2 (!c3) u6 = W := ⟨_, rfl⟩
  rw [hW] at HWB
  have HE1 := Lib.hid (show W false false = w1 by rw [← hW]; rfl)
  have HE2 := Lib.hid (show ∀ c, W true c = w1.alloc (.cells #[.bool t0, .bool t1, .bool (!u2), .bool (!c1), .bool c2, .bool (!c3), .bool u6] 4) from fun c => by rw [← hW]; rfl)
  have hWB : ∀ b c, Below w1.heap.size w1 (W b c) := fun b c => HWB.out b c
  have CR1 := Lib.hid (fun b c => cell_later (hWB b c) HA1.out.2.1)
  have CR2 := Lib.hid (fun b c => cell_later (hWB b c) HA1.out.2.2.1)
  have CR3 := Lib.hid (fun b c => cell_later (hWB b c) HA1.out.2.2.2.1)
  have CR4 := Lib.hid (fun b c => cell_later (hWB b c) HA1.out.2.2.2.2)
  have CC4 := Lib.hid (fun b c => cell_later (hWB b c) HB1.out.2.2.2.2.1)
  have CC5 := Lib.hid (fun b c => cell_later (hWB b c) HB1.out.2.2.2.2.2.1)
  have CC6 := Lib.hid (fun b c => cell_later (hWB b c) HB1.out.2.2.2.2.2.2.1)
  have CC7 := Lib.hid (fun b c => cell_later (hWB b c) HB1.out.2.2.2.2.2.2.2.1)
  have CC8 := Lib.hid (fun b c => cell_later (hWB b c) HB1.out.2.2.2.2.2.2.2.2)
  refine wp_region_fixed (sz := 41) [2, 3, 5] (by kernel_rfl) (by kernel_rfl) (by kernel_rfl) 28 29 (by decide) (by decide) (by kernel_rfl) W (fun i => match i with | 0 => .int .i64 (y - bo) | 1 => .pointer (some ⟨rb, 1, none⟩) | 2 => .int .i64 l | 3 => .bool t0 | 4 => .int .i64 (y - bo) | 5 => .pointer (some ⟨rb, 2, none⟩) | 6 => .int .i64 m | 7 => .bool t1 | 8 => .pointer (some ⟨rb, 3, none⟩) | 9 => .slice za zl zc | 10 => .pointer (some ⟨cb, 0, none⟩) | 11 => .pointer (some ⟨cb, 4, none⟩) | 12 => .int .i64 z | 13 => .bool u2 | 14 => .bool (!u2) | 15 => .pointer (some ⟨cb, 5, none⟩) | 16 => .bool c1 | 17 => .bool (!c1) | 18 => .pointer (some ⟨cb, 6, none⟩) | 19 => .bool c2 | 20 => .pointer (some ⟨cb, 7, none⟩) | 21 => .bool c3 | 22 => .bool (!c3) | 23 => .pointer (some ⟨rb, 4, none⟩) | 24 => .slice ja jl jc | 25 => .pointer (some ⟨cb, 8, none⟩) | 26 => .int .i64 j | 27 => .bool u6 | 28 => .slice (some ⟨w1.heap.size, 0, none⟩) 7 7 | 29 => .slice (some ⟨w1.heap.size, 0, none⟩) 7 7 | _ => undef) rfl ?_ ?_ ?_
  · rw [← hW]; exact hw1.symm
  · intro i o ho
    match i, ho with
    | 0, ho =>
      cases ho
      intro ev b c hc hfn hb hm1 hn1 hcb hd
      have o5 : ev (.tmp 5) = .int .i64 (y - bo) := hb 5 (by simp)
      refine stepTo_gen fun K' hK => ?_
      simp [go_sem, stepTo, o5]
      exact hK _ _ ⟨(fun h => by cases h), rfl, rfl⟩
    | 1, ho =>
      cases ho
      intro ev b c hc hfn hb hm1 hn1 hcb hd
      have o2 : ev (.tmp 2) = .pointer (some ⟨rb, 0, none⟩) := hb 2 (by simp)
      refine stepTo_gen fun K' hK => ?_
      simp [go_sem, stepTo, o2]
      exact hK _ _ ⟨(fun h => by cases h), rfl, rfl⟩
    | 2, ho =>
      cases ho
      intro ev b c hc hfn hb hm1 hn1 hcb hd
      have d1 : ev (.tmp 13) = .pointer (some ⟨rb, 1, none⟩) := (hd { on := 1, ground := .data } (by simp) rfl).2.2 _ rfl
      refine stepTo_gen fun K' hK => ?_
      simp [go_sem, stepTo, d1, CR1.out b c]
      exact hK _ _ ⟨(fun h => by cases h), rfl, rfl⟩
    | 3, ho =>
      cases ho
      intro ev b c hc hfn hb hm1 hn1 hcb hd
      have d0 : ev (.tmp 12) = .int .i64 (y - bo) := (hd { on := 0, ground := .data } (by simp) rfl).2.2 _ rfl
      have d2 : ev (.tmp 14) = .int .i64 l := (hd { on := 2, ground := .data } (by simp) rfl).2.2 _ rfl
      refine stepTo_gen fun K' hK => ?_
      simp [go_sem, stepTo, d0, d2]
      exact hK _ _ ⟨(fun h => by cases h), congrArg Value.bool H0.out, rfl⟩
    | 4, ho =>
      cases ho
      intro ev b c hc hfn hb hm1 hn1 hcb hd
      have o5 : ev (.tmp 5) = .int .i64 (y - bo) := hb 5 (by simp)
      refine stepTo_gen fun K' hK => ?_
      simp [go_sem, stepTo, o5]
      exact hK _ _ ⟨(fun h => by cases h), rfl, rfl⟩
    | 5, ho =>
      cases ho
      intro ev b c hc hfn hb hm1 hn1 hcb hd
      have o2 : ev (.tmp 2) = .pointer (some ⟨rb, 0, none⟩) := hb 2 (by simp)
      refine stepTo_gen fun K' hK => ?_
      simp [go_sem, stepTo, o2]
      exact hK _ _ ⟨(fun h => by cases h), rfl, rfl⟩
    | 6, ho =>
      cases ho
      intro ev b c hc hfn hb hm1 hn1 hcb hd
      have d5 : ev (.tmp 17) = .pointer (some ⟨rb, 2, none⟩) := (hd { on := 5, ground := .data } (by simp) rfl).2.2 _ rfl
      refine stepTo_gen fun K' hK => ?_
      simp [go_sem, stepTo, d5, CR2.out b c]
      exact hK _ _ ⟨(fun h => by cases h), rfl, rfl⟩
    | 7, ho =>
      cases ho
      intro ev b c hc hfn hb hm1 hn1 hcb hd
      have d4 : ev (.tmp 16) = .int .i64 (y - bo) := (hd { on := 4, ground := .data } (by simp) rfl).2.2 _ rfl
      have d6 : ev (.tmp 18) = .int .i64 m := (hd { on := 6, ground := .data } (by simp) rfl).2.2 _ rfl
      refine stepTo_gen fun K' hK => ?_
      simp [go_sem, stepTo, d4, d6]
      exact hK _ _ ⟨(fun h => by cases h), congrArg Value.bool H1.out, rfl⟩
    | 8, ho =>
      cases ho
      intro ev b c hc hfn hb hm1 hn1 hcb hd
      have o2 : ev (.tmp 2) = .pointer (some ⟨rb, 0, none⟩) := hb 2 (by simp)
      refine stepTo_gen fun K' hK => ?_
      simp [go_sem, stepTo, o2]
      exact hK _ _ ⟨(fun h => by cases h), rfl, rfl⟩
    | 9, ho =>
      cases ho
      intro ev b c hc hfn hb hm1 hn1 hcb hd
      have d8 : ev (.tmp 20) = .pointer (some ⟨rb, 3, none⟩) := (hd { on := 8, ground := .data } (by simp) rfl).2.2 _ rfl
      refine stepTo_gen fun K' hK => ?_
      simp [go_sem, stepTo, d8, CR3.out b c]
      exact hK _ _ ⟨(fun h => by cases h), rfl, rfl⟩
    | 10, ho =>
      cases ho
      intro ev b c hc hfn hb hm1 hn1 hcb hd
      have o3 : ev (.tmp 3) = .pointer (some ⟨cb, 0, none⟩) := hb 3 (by simp)
      refine stepTo_gen fun K' hK => ?_
      simp [go_sem, stepTo, o3]
      exact hK _ _ ⟨(fun h => by cases h), rfl, rfl⟩
    | 11, ho =>
      cases ho
      intro ev b c hc hfn hb hm1 hn1 hcb hd
      have d10 : ev (.tmp 22) = .pointer (some ⟨cb, 0, none⟩) := (hd { on := 10, ground := .data } (by simp) rfl).2.2 _ rfl
      refine stepTo_gen fun K' hK => ?_
      simp [go_sem, stepTo, d10]
      exact hK _ _ ⟨(fun h => by cases h), rfl, rfl⟩
    | 12, ho =>
      cases ho
      intro ev b c hc hfn hb hm1 hn1 hcb hd
      have d11 : ev (.tmp 23) = .pointer (some ⟨cb, 4, none⟩) := (hd { on := 11, ground := .data } (by simp) rfl).2.2 _ rfl
      refine stepTo_gen fun K' hK => ?_
      simp [go_sem, stepTo, d11, CC4.out b c]
      exact hK _ _ ⟨(fun h => by cases h), rfl, rfl⟩
    | 13, ho =>
      cases ho
      intro ev b c hc hfn hb hm1 hn1 hcb hd
      have d9 : ev (.tmp 21) = .slice za zl zc := (hd { on := 9, ground := .data } (by simp) rfl).2.2 _ rfl
      have d12 : ev (.tmp 24) = .int .i64 z := (hd { on := 12, ground := .data } (by simp) rfl).2.2 _ rfl
      refine stepTo_gen fun K' hK => ?_
      simp [go_sem, stepTo, hfn, d9, d12]
      refine (specHas6_any za zl zc zz z (W b c) HR.out.1 HR.out.2.1 (HR.out.2.2.1.below (hWB b c))).mono ?_; rintro e w2 ⟨rfl, rfl⟩
      exact ⟨_, rfl, hK _ _ ⟨(fun h => by cases h), congrArg Value.bool Hu2.out, rfl⟩⟩
    | 14, ho =>
      cases ho
      intro ev b c hc hfn hb hm1 hn1 hcb hd
      have d13 : ev (.tmp 25) = .bool u2 := (hd { on := 13, ground := .data } (by simp) rfl).2.2 _ rfl
      refine stepTo_gen fun K' hK => ?_
      simp [go_sem, stepTo, d13]
      exact hK _ _ ⟨(fun h => by cases h), rfl, rfl⟩
    | 15, ho =>
      cases ho
      intro ev b c hc hfn hb hm1 hn1 hcb hd
      have o3 : ev (.tmp 3) = .pointer (some ⟨cb, 0, none⟩) := hb 3 (by simp)
      refine stepTo_gen fun K' hK => ?_
      simp [go_sem, stepTo, o3]
      exact hK _ _ ⟨(fun h => by cases h), rfl, rfl⟩
    | 16, ho =>
      cases ho
      intro ev b c hc hfn hb hm1 hn1 hcb hd
      have d15 : ev (.tmp 27) = .pointer (some ⟨cb, 5, none⟩) := (hd { on := 15, ground := .data } (by simp) rfl).2.2 _ rfl
      refine stepTo_gen fun K' hK => ?_
      simp [go_sem, stepTo, d15, CC5.out b c]
      exact hK _ _ ⟨(fun h => by cases h), rfl, rfl⟩
    | 17, ho =>
      cases ho
      intro ev b c hc hfn hb hm1 hn1 hcb hd
      have d16 : ev (.tmp 28) = .bool c1 := (hd { on := 16, ground := .data } (by simp) rfl).2.2 _ rfl
      refine stepTo_gen fun K' hK => ?_
      simp [go_sem, stepTo, d16]
      exact hK _ _ ⟨(fun h => by cases h), rfl, rfl⟩
    | 18, ho =>
      cases ho
      intro ev b c hc hfn hb hm1 hn1 hcb hd
      have o3 : ev (.tmp 3) = .pointer (some ⟨cb, 0, none⟩) := hb 3 (by simp)
      refine stepTo_gen fun K' hK => ?_
      simp [go_sem, stepTo, o3]
      exact hK _ _ ⟨(fun h => by cases h), rfl, rfl⟩
    | 19, ho =>
      cases ho
      intro ev b c hc hfn hb hm1 hn1 hcb hd
      have d18 : ev (.tmp 30) = .pointer (some ⟨cb, 6, none⟩) := (hd { on := 18, ground := .data } (by simp) rfl).2.2 _ rfl
      refine stepTo_gen fun K' hK => ?_
      simp [go_sem, stepTo, d18, CC6.out b c]
      exact hK _ _ ⟨(fun h => by cases h), rfl, rfl⟩
    | 20, ho =>
      cases ho
      intro ev b c hc hfn hb hm1 hn1 hcb hd
      have o3 : ev (.tmp 3) = .pointer (some ⟨cb, 0, none⟩) := hb 3 (by simp)
      refine stepTo_gen fun K' hK => ?_
      simp [go_sem, stepTo, o3]
      exact hK _ _ ⟨(fun h => by cases h), rfl, rfl⟩
    | 21, ho =>
      cases ho
      intro ev b c hc hfn hb hm1 hn1 hcb hd
      have d20 : ev (.tmp 32) = .pointer (some ⟨cb, 7, none⟩) := (hd { on := 20, ground := .data } (by simp) rfl).2.2 _ rfl
      refine stepTo_gen fun K' hK => ?_
      simp [go_sem, stepTo, d20, CC7.out b c]
      exact hK _ _ ⟨(fun h => by cases h), rfl, rfl⟩
    | 22, ho =>
      cases ho
      intro ev b c hc hfn hb hm1 hn1 hcb hd
      have d21 : ev (.tmp 33) = .bool c3 := (hd { on := 21, ground := .data } (by simp) rfl).2.2 _ rfl
      refine stepTo_gen fun K' hK => ?_
      simp [go_sem, stepTo, d21]
      exact hK _ _ ⟨(fun h => by cases h), rfl, rfl⟩
    | 23, ho =>
      cases ho
      intro ev b c hc hfn hb hm1 hn1 hcb hd
      have o2 : ev (.tmp 2) = .pointer (some ⟨rb, 0, none⟩) := hb 2 (by simp)
      refine stepTo_gen fun K' hK => ?_
      simp [go_sem, stepTo, o2]
      exact hK _ _ ⟨(fun h => by cases h), rfl, rfl⟩
    | 24, ho =>
      cases ho
      intro ev b c hc hfn hb hm1 hn1 hcb hd
      have d23 : ev (.tmp 35) = .pointer (some ⟨rb, 4, none⟩) := (hd { on := 23, ground := .data } (by simp) rfl).2.2 _ rfl
      refine stepTo_gen fun K' hK => ?_
      simp [go_sem, stepTo, d23, CR4.out b c]
      exact hK _ _ ⟨(fun h => by cases h), rfl, rfl⟩
    | 25, ho =>
      cases ho
      intro ev b c hc hfn hb hm1 hn1 hcb hd
      have o3 : ev (.tmp 3) = .pointer (some ⟨cb, 0, none⟩) := hb 3 (by simp)
      refine stepTo_gen fun K' hK => ?_
      simp [go_sem, stepTo, o3]
      exact hK _ _ ⟨(fun h => by cases h), rfl, rfl⟩
    | 26, ho =>
      cases ho
      intro ev b c hc hfn hb hm1 hn1 hcb hd
      have d25 : ev (.tmp 37) = .pointer (some ⟨cb, 8, none⟩) := (hd { on := 25, ground := .data } (by simp) rfl).2.2 _ rfl
      refine stepTo_gen fun K' hK => ?_
      simp [go_sem, stepTo, d25, CC8.out b c]
      exact hK _ _ ⟨(fun h => by cases h), rfl, rfl⟩
    | 27, ho =>
      cases ho
      intro ev b c hc hfn hb hm1 hn1 hcb hd
      have d24 : ev (.tmp 36) = .slice ja jl jc := (hd { on := 24, ground := .data } (by simp) rfl).2.2 _ rfl
      have d26 : ev (.tmp 38) = .int .i64 j := (hd { on := 26, ground := .data } (by simp) rfl).2.2 _ rfl
      refine stepTo_gen fun K' hK => ?_
      simp [go_sem, stepTo, hfn, d24, d26]
      refine (specHas6_any ja jl jc jj j (W b c) HR.out.2.2.2.1 HR.out.2.2.2.2.1 (HR.out.2.2.2.2.2.below (hWB b c))).mono ?_; rintro e w2 ⟨rfl, rfl⟩
      exact ⟨_, rfl, hK _ _ ⟨(fun h => by cases h), congrArg Value.bool Hu6.out, rfl⟩⟩
    | 28, ho =>
      cases ho
      intro ev b c hc hfn hb hm1 hn1 hcb hd
      have d3 : ev (.tmp 15) = .bool t0 := (hd { on := 3, ground := .data } (by simp) rfl).2.2 _ rfl
      have d7 : ev (.tmp 19) = .bool t1 := (hd { on := 7, ground := .data } (by simp) rfl).2.2 _ rfl
      have d14 : ev (.tmp 26) = .bool (!u2) := (hd { on := 14, ground := .data } (by simp) rfl).2.2 _ rfl
      have d17 : ev (.tmp 29) = .bool (!c1) := (hd { on := 17, ground := .data } (by simp) rfl).2.2 _ rfl
      have d19 : ev (.tmp 31) = .bool c2 := (hd { on := 19, ground := .data } (by simp) rfl).2.2 _ rfl
      have d22 : ev (.tmp 34) = .bool (!c3) := (hd { on := 22, ground := .data } (by simp) rfl).2.2 _ rfl
      have d27 : ev (.tmp 39) = .bool u6 := (hd { on := 27, ground := .data } (by simp) rfl).2.2 _ rfl
      have e1 := hm1 rfl
      subst e1
      have e2 : c = false := by cases c; rfl; exact absurd (hcb rfl) (by simp)
      subst e2
      rw [HE1.out]
      refine stepTo_gen fun K' hK => ?_
      simp [go_sem, stepTo, d3, d7, d14, d17, d19, d22, d27]
      exact hK _ _ ⟨(fun h => by cases h), rfl, (HE2.out false).symm⟩
    | 29, ho =>
      cases ho
      intro ev b c hc hfn hb hm1 hn1 hcb hd
      have d28 : ev (.tmp 40) = .slice (some ⟨w1.heap.size, 0, none⟩) 7 7 := (hd { on := 28, ground := .data } (by simp) rfl).2.2 _ rfl
      have e1 : b = true := (hd { on := 28, ground := .data } (by simp) rfl).1 rfl
      subst e1
      have e2 := hn1 rfl
      subst e2
      refine stepTo_gen fun K' hK => ?_
      simp [go_sem, stepTo, d28]
      exact hK _ _ ⟨(fun h => by cases h), rfl, (HE2.out false).trans (HE2.out true).symm⟩
    | n + 30, ho => simp at ho
  · intro a hb hs hdf hf
    have h6 : a.eval (.tmp 4) = .slice (some ⟨w1.heap.size, 0, none⟩) 7 7 := hf 29 _ rfl
    obtain ⟨tmps, dfs⟩ := a
    simp only at hdf
    subst hdf
    have HW4 := Lib.hid (HW1.out.trans ((HWB.out true true).mono hsz1))
    have HP4 := Lib.hid (show BoolsAt (W true true) w1.heap.size [t0, t1, !u2, !c1, c2, !c3, u6] by rw [HE2.out]; exact HP.out)
    generalize W true true = w4 at HW4 HP4 ⊢
    obtain ⟨ls⟩ := tmps
    clear hf hb CR1 CR2 CR3 CR4 CC4 CC5 CC6 CC7 CC8 HP hWB HWB HE1 HE2 hW
    match ls, hs with
    | x0 :: x1 :: x2 :: x3 :: x4 :: x5 :: x6 :: x7 :: x8 :: x9 :: x10 :: x11 :: x12 :: x13 :: x14 :: x15 :: x16 :: x17 :: x18 :: x19 :: x20 :: x21 :: x22 :: x23 :: x24 :: x25 :: x26 :: x27 :: x28 :: x29 :: x30 :: x31 :: x32 :: x33 :: x34 :: x35 :: x36 :: x37 :: x38 :: x39 :: x40 :: [], _ =>
    obtain rfl : x4 = .slice (some ⟨w1.heap.size, 0, none⟩) 7 7 := h6
    go_wp2_with fail
    go_ret
    exact ⟨_, rfl, by rw [HRB.out]; exact hsz1, HP4.out, by rw [HRB.out]; exact HW4.out⟩

theorem specTruths_any (y l m : Int) (za : Option Addr) (zl zc : Nat) (ja : Option Addr) (jl jc : Nat) (zz jj : List Int) (n : Int) (f la : ByteArray) (bo z : Int) (c1 c2 c3 : Bool) (j : Int) (w : World) (hR : RulesIn w za zl ja jl zz jj) (hy : 1900 ≤ y ∧ y ≤ 2200) (hbo : 1900 ≤ bo ∧ bo ≤ 2100) :
    Calls Try.prog 54 #[.agg #[.int .i64 y, .int .i64 l, .int .i64 m, .slice za zl zc, .slice ja jl jc], .agg #[.int .i64 n, .string f, .string la, .int .i64 bo, .int .i64 z, .bool c1, .bool c2, .bool c3, .int .i64 j]] w (SaysBools (truths ⟨y, l, m, zz, jj⟩ ⟨⟨n, f, la, bo, z⟩, c1, c2, c3, j⟩) w) :=
  specTruths_bits y l m za zl zc ja jl jc zz jj n f la bo z c1 c2 c3 j _ _ _ _ w hR hy hbo rfl rfl rfl rfl

set_option maxRecDepth 100000 in
set_option maxHeartbeats 1000000 in
theorem specReasons_any (y l m : Int) (za : Option Addr) (zl zc : Nat) (ja : Option Addr) (jl jc : Nat) (zz jj : List Int) (n : Int) (f la : ByteArray) (bo z : Int) (c1 c2 c3 : Bool) (j : Int) (w : World) (hR : RulesIn w za zl ja jl zz jj) (hy : 1900 ≤ y ∧ y ≤ 2200) (hbo : 1900 ≤ bo ∧ bo ≤ 2100) :
    Calls Try.prog 51 #[.agg #[.int .i64 y, .int .i64 l, .int .i64 m, .slice za zl zc, .slice ja jl jc], .agg #[.int .i64 n, .string f, .string la, .int .i64 bo, .int .i64 z, .bool c1, .bool c2, .bool c3, .int .i64 j]] w fun e w' => e = .returned (.int .i64 (reasons ⟨y, l, m, zz, jj⟩ ⟨⟨n, f, la, bo, z⟩, c1, c2, c3, j⟩)) ∧ Below w.heap.size w w' := by
  have HW := Lib.hid (show Below w.heap.size w ((w.alloc (.cells #[.int .i64 y, .int .i64 l, .int .i64 m, .slice za zl zc, .slice ja jl jc] 26)).alloc (.cells #[.int .i64 n, .string f, .string la, .int .i64 bo, .int .i64 z, .bool c1, .bool c2, .bool c3, .int .i64 j] 30)) from (boxed _ _).alloc (by simp) _)
  have HC := Lib.hid (specTruths_any y l m za zl zc ja jl jc zz jj n f la bo z c1 c2 c3 j ((w.alloc (.cells #[.int .i64 y, .int .i64 l, .int .i64 m, .slice za zl zc, .slice ja jl jc] 26)).alloc (.cells #[.int .i64 n, .string f, .string la, .int .i64 bo, .int .i64 z, .bool c1, .bool c2, .bool c3, .int .i64 j] 30)) (hR.below HW.out) hy hbo)
  have HN := Lib.hid (show reasons ⟨y, l, m, zz, jj⟩ ⟨⟨n, f, la, bo, z⟩, c1, c2, c3, j⟩ = mask (truths ⟨y, l, m, zz, jj⟩ ⟨⟨n, f, la, bo, z⟩, c1, c2, c3, j⟩) from rfl)
  have hlen := truths_len ⟨y, l, m, zz, jj⟩ ⟨⟨n, f, la, bo, z⟩, c1, c2, c3, j⟩
  generalize truths ⟨y, l, m, zz, jj⟩ ⟨⟨n, f, la, bo, z⟩, c1, c2, c3, j⟩ = ts at HC HN hlen
  have HL := Lib.hid hlen
  clear hR hlen
  go_enter Try.func51, Try.ntmps51
  go_wp2_with fail
  refine HC.out.mono ?_; rintro e w4 ⟨b, rfl, _, hbs, hB⟩
  have HB4 := Lib.hid hbs; have HW4 := Lib.hid (HW.out.trans (hB.mono HW.out.size)); clear hbs hB HC HW
  go_wp2_with fail
  go_loop [6, 7, 8] (fun r u k => ∃ i : Nat, i ≤ 7 ∧ k = .int .i64 i ∧ r = .int .i64 (mask (ts.take i)) ∧ u = .int .i64 (2 ^ i)) (fun _ _ k => 7 - (intOf k).toNat)
  case atStart => exact ⟨0, Nat.zero_le _, rfl, rfl, rfl⟩
  case round =>
    obtain ⟨i, hi, rfl, rfl, rfl⟩ := hrel
    by_cases hlt : i < 7
    · have hx : ts[i]? = some (ts[i]'(by rw [HL.out]; exact hlt)) := List.getElem?_eq_getElem (by rw [HL.out]; exact hlt)
      generalize ts[i]'(by rw [HL.out]; exact hlt) = v at hx
      have hc := HB4.out i v hx
      have hbd := mask7_lt ts i (by omega)
      have hS := mask_take hx
      have hp : (2 : Int) ^ (i + 1) = 2 * 2 ^ i := by rw [Int.pow_succ]; omega
      have hp64 : (2 : Int) ^ i ≤ 64 := by exact_mod_cast (Nat.pow_le_pow_right (n := 2) (by omega) (show i ≤ 6 by omega))
      generalize (2 : Int) ^ i = U at hbd hS hp hp64 ⊢
      generalize mask (ts.take i) = M at hbd hS ⊢
      have HS := Lib.hid hS; have HP := Lib.hid hp
      clear hx hS hp
      cases v
      · go_wp2_with fail
        go_round
        case rel => exact ⟨i + 1, by omega, by go_num, by rw [HS.out]; simp, by rw [HP.out]⟩
        case measure => simp [intOf]; omega
      · go_wp2_with fail
        go_round
        case rel => exact ⟨i + 1, by omega, by go_num, by rw [HS.out]; simp, by rw [HP.out]⟩
        case measure => simp [intOf]; omega
    · obtain rfl : i = 7 := by omega
      have HM := Lib.hid (show mask (ts.take 7) = mask ts by rw [List.take_of_length_le (by rw [HL.out]; exact Nat.le_refl _)])
      go_wp2_with fail
      go_ret
      exact ⟨ret_i64 (by rw [HM.out, HN.out]), HW4.out⟩

end Go.Proofs.Ytjnjmoiilapbiaa
