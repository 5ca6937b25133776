/- A row of calls in which one is set. -/
import Derived.Test.YtekhdggaelppkaaChecked
import Derived.Test.YtekhdggaelppkaaBase0
import Derived.Test.YtekhdggaelppkaaCallB
import Derived.Test.YtekhdggaelppkaaCallC
import Derived.Test.YtekhdggaelppkaaCallD
import Derived.Test.YtekhdggaelppkaaPure100
import Derived.WalkKit
import Derived.WalkSpells
import Derived.WalkLawsBesides
import Derived.Lib.Hide
import Derived.Deep.OwnRows
import Derived.Outline
namespace Go.Proofs.Ytekhdggaelppkaa
open Go.RowKit Pure2

/-- calls of our own and a code -/
def SaysNewC (ts : List Call) (n : Int) (w : World) (e : Ending) (w' : World) : Prop :=
  ∃ a cap, e = .returned (.tuple #[.slice a ts.length cap, .int .i64 n]) ∧ Call.Own w.heap.size w' a ts.length (Call.flat ts) ∧ Below w.heap.size w w'
theorem SaysNewC.newC {ts : List Call} {n : Int} {w w' : World} {e : Ending} (h : SaysNewC ts n w e w') : SaysNewC ts n w e w' := h
theorem SaysNewC.nil {n : Int} {w w' : World} (hB : Below w.heap.size w w') : SaysNewC [] n w (.returned (.tuple #[.slice none 0 0, .int .i64 n])) w' := ⟨_, _, rfl, .inl rfl, hB⟩

def Call.nth (c : Call) (r : Nat) : Int := [c.num, c.fst, c.day, c.moves].getD r 0
theorem Call.flat_nth {ts : List Call} {q : Nat} {c : Call} (h : ts[q]? = some c) {r : Nat} (hr : r < 4) : Call.flat ts (q * 4 + r) = c.nth r := by
  unfold Call.flat Call.nth
  rw [show (q * 4 + r) / 4 = q by omega, show (q * 4 + r) % 4 = r by omega, h]
theorem own_put10 {f g : Nat → Value} {ts : List Call} {k : Nat} {x : Call} (hk : k < ts.length) (hf : ∀ i, i < ts.length * 4 → f i = .int .i64 (Call.flat ts i))
    (hg : ∀ r, r < 4 → g (k * 4 + r) = .int .i64 (x.nth r)) (ho : ∀ i, i / 4 ≠ k → g i = f i) : ∀ i, i < (ts.set k x).length * 4 → g i = .int .i64 (Call.flat (ts.set k x) i) := by
  intro i hi
  rw [List.length_set] at hi
  obtain ⟨q, r, hr, rfl⟩ : ∃ q r, r < 4 ∧ i = q * 4 + r := ⟨i / 4, i % 4, Nat.mod_lt _ (by omega), by omega⟩
  have hq : q < ts.length := by omega
  by_cases e : q = k
  · subst e
    rw [hg r hr, Call.flat_nth (List.getElem?_set_self hk) hr]
  · have hc : ts[q]? = some (ts[q]'hq) := List.getElem?_eq_getElem hq
    rw [ho _ (by omega), hf _ hi, Call.flat_nth hc hr, Call.flat_nth (c := ts[q]'hq) (by rw [List.getElem?_set_ne (by omega)]; exact hc) hr]
/-- day and moves are stored -/
theorem Call.Own.moved {B b : Nat} {w : World} {ts : List Call} {k : Nat} {s : Call} (d : Int) (h : Call.Own B w (some ⟨b, 0, none⟩) ts.length (Call.flat ts)) (hs : ts[k]? = some s) :
    Call.Own B ((w.setCell ⟨b, k * 4 + 2, none⟩ (.int .i64 d)).setCell ⟨b, k * 4 + 3, none⟩ (.int .i64 (s.moves + 1))) (some ⟨b, 0, none⟩) (ts.set k (moved s d)).length (Call.flat (ts.set k (moved s d))) := by
  have hk := lt_of_getC hs
  rcases h with h | ⟨b', f, N, e, hB, hN, hr, hf⟩
  · omega
  · cases e
    refine .inr ⟨b, _, N, rfl, hB, by rw [List.length_set]; exact hN, (hr.set (k * 4 + 2) (.int .i64 d)).set (k * 4 + 3) (.int .i64 (s.moves + 1)), ?_⟩
    refine own_put10 hk hf (fun r hr' => ?_) (fun i hi => ?_)
    · have hc : r = 0 ∨ r = 1 ∨ r = 2 ∨ r = 3 := by omega
      rcases hc with rfl | rfl | rfl | rfl
      · rw [if_neg (by omega), if_neg (by omega), hf _ (by omega), Call.flat_nth hs (by omega)]; rfl
      · rw [if_neg (by omega), if_neg (by omega), hf _ (by omega), Call.flat_nth hs (by omega)]; rfl
      · rw [if_neg (by omega), if_pos rfl]; rfl
      · rw [if_pos rfl]; rfl
    · rw [if_neg (by omega), if_neg (by omega)]
theorem Call.Own.frozen {B b len : Nat} {w : World} {g : Nat → Int} (h : Call.Own B w (some ⟨b, 0, none⟩) len g) (hl : 0 < len) (j : Nat) : w.frozen? ⟨b, j, none⟩ = false := by
  rcases h with h | ⟨b', f, N, e, hB, hN, hr, hf⟩
  · omega
  · cases e; exact hr.frozen j
theorem Call.Own.base10 {B b len : Nat} {w : World} {g : Nat → Int} (h : Call.Own B w (some ⟨b, 0, none⟩) len g) (hl : 0 < len) : B ≤ b := by
  rcases h with h | ⟨b', f, N, e, hB, hN, hr, hf⟩
  · omega
  · cases e; exact hB
/-- the cells of the k-th -/
theorem Call.Own.cells {B b : Nat} {w : World} {ts : List Call} {k : Nat} {s : Call} (h : Call.Own B w (some ⟨b, 0, none⟩) ts.length (Call.flat ts)) (hs : ts[k]? = some s) : Call.At w b (k * 4) s := by
  rcases Call.Own.reads h with h0 | ⟨b', off, e, hc⟩
  · rw [h0] at hs; simp at hs
  · cases e; have := hc k s hs; rwa [Nat.zero_add] at this
/-- a struct's own box as a row -/
theorem Call.box_row (w : World) (c : Call) (T : TypeId) : (w.alloc (.cells #[.int .i64 c.num, .int .i64 c.fst, .int .i64 c.day, .int .i64 c.moves] T)).rowIs w.heap.size T 4 (fun j => .int .i64 (c.nth j)) := by
  refine World.rowIs_alloc w #[.int .i64 c.num, .int .i64 c.fst, .int .i64 c.day, .int .i64 c.moves] T _ (fun i hi => ?_)
  have hi : i < 4 := hi
  have hc : i = 0 ∨ i = 1 ∨ i = 2 ∨ i = 3 := by omega
  rcases hc with rfl | rfl | rfl | rfl <;> rfl
/-- what a list that was built gives -/
theorem Call.Bd.own10 {w : World} {B : Nat} {v : Value} {ts : List Call} (h : Call.Bd w B v ts) (h0 : 0 < ts.length) : ∃ b cap, v = .slice (some ⟨b, 0, none⟩) ts.length cap ∧ Call.Own B w (some ⟨b, 0, none⟩) ts.length (Call.flat ts) := by
  rcases h.parts with ⟨_, rfl⟩ | h
  · simp at h0
  · obtain ⟨a, cap, rfl, ho⟩ := h.own
    obtain ⟨b, rfl, _⟩ := ho.at h0
    exact ⟨b, cap, rfl, ho⟩
end Go.Proofs.Ytekhdggaelppkaa
