/- A row of summonses in which one is set. -/
import Derived.Test.YtchffaohmeaccaaDoorChecked
import Derived.Test.YtchffaohmeaccaaDoorBase0
import Derived.Test.YtchffaohmeaccaaDoorSummonsB
import Derived.Test.YtchffaohmeaccaaDoorSummonsC
import Derived.Test.YtchffaohmeaccaaDoorSummonsD
import Derived.WalkKit
import Derived.WalkSpells
import Derived.WalkLawsBesides
import Derived.Lib.Hide
import Derived.Deep.OwnRows
import Derived.Outline
namespace Go.Proofs.YtchffaohmeaccaaDoor
open Go.RowKit Pure2

/-- summonses of our own and a code -/
def SaysNewM (ts : List Summons) (n : Int) (w : World) (e : Ending) (w' : World) : Prop :=
  ∃ a cap, e = .returned (.tuple #[.slice a ts.length cap, .int .i64 n]) ∧ Summons.Own w.heap.size w' a ts.length (Summons.flat ts) ∧ Below w.heap.size w w'
theorem SaysNewM.newM {ts : List Summons} {n : Int} {w w' : World} {e : Ending} (h : SaysNewM ts n w e w') : SaysNewM ts n w e w' := h
theorem SaysNewM.nil {n : Int} {w w' : World} (hB : Below w.heap.size w w') : SaysNewM [] n w (.returned (.tuple #[.slice none 0 0, .int .i64 n])) w' := ⟨_, _, rfl, .inl rfl, hB⟩

def Summons.nth (c : Summons) (r : Nat) : Int := [c.num, c.sent, c.due, c.ans, c.done].getD r 0
theorem Summons.flat_nth {ts : List Summons} {q : Nat} {c : Summons} (h : ts[q]? = some c) {r : Nat} (hr : r < 5) : Summons.flat ts (q * 5 + r) = c.nth r := by
  unfold Summons.flat Summons.nth
  rw [show (q * 5 + r) / 5 = q by omega, show (q * 5 + r) % 5 = r by omega, h]
theorem own_put9 {f g : Nat → Value} {ts : List Summons} {k : Nat} {x : Summons} (hk : k < ts.length) (hf : ∀ i, i < ts.length * 5 → f i = .int .i64 (Summons.flat ts i))
    (hg : ∀ r, r < 5 → g (k * 5 + r) = .int .i64 (x.nth r)) (ho : ∀ i, i / 5 ≠ k → g i = f i) : ∀ i, i < (ts.set k x).length * 5 → g i = .int .i64 (Summons.flat (ts.set k x) i) := by
  intro i hi
  rw [List.length_set] at hi
  obtain ⟨q, r, hr, rfl⟩ : ∃ q r, r < 5 ∧ i = q * 5 + r := ⟨i / 5, i % 5, Nat.mod_lt _ (by omega), by omega⟩
  have hq : q < ts.length := by omega
  by_cases e : q = k
  · subst e
    rw [hg r hr, Summons.flat_nth (List.getElem?_set_self hk) hr]
  · have hc : ts[q]? = some (ts[q]'hq) := List.getElem?_eq_getElem hq
    rw [ho _ (by omega), hf _ hi, Summons.flat_nth hc hr, Summons.flat_nth (c := ts[q]'hq) (by rw [List.getElem?_set_ne (by omega)]; exact hc) hr]
/-- two of its numbers are stored -/
theorem Summons.Own.ans {B b : Nat} {w : World} {ts : List Summons} {k : Nat} {s : Summons} (a d : Int) (h : Summons.Own B w (some ⟨b, 0, none⟩) ts.length (Summons.flat ts)) (hs : ts[k]? = some s) :
    Summons.Own B ((w.setCell ⟨b, k * 5 + 3, none⟩ (.int .i64 a)).setCell ⟨b, k * 5 + 4, none⟩ (.int .i64 d)) (some ⟨b, 0, none⟩) (ts.set k (answered s a d)).length (Summons.flat (ts.set k (answered s a d))) := by
  have hk := lt_of_getM hs
  rcases h with h | ⟨b', f, N, e, hB, hN, hr, hf⟩
  · omega
  · cases e
    refine .inr ⟨b, _, N, rfl, hB, by rw [List.length_set]; exact hN, (hr.set (k * 5 + 3) (.int .i64 a)).set (k * 5 + 4) (.int .i64 d), ?_⟩
    refine own_put9 hk hf (fun r hr' => ?_) (fun i hi => ?_)
    · have hc : r = 0 ∨ r = 1 ∨ r = 2 ∨ r = 3 ∨ r = 4 := by omega
      rcases hc with rfl | rfl | rfl | rfl | rfl
      · rw [if_neg (by omega), if_neg (by omega), hf _ (by omega), Summons.flat_nth hs (by omega)]; rfl
      · rw [if_neg (by omega), if_neg (by omega), hf _ (by omega), Summons.flat_nth hs (by omega)]; rfl
      · rw [if_neg (by omega), if_neg (by omega), hf _ (by omega), Summons.flat_nth hs (by omega)]; rfl
      · rw [if_neg (by omega), if_pos rfl]; rfl
      · rw [if_pos rfl]; rfl
    · rw [if_neg (by omega), if_neg (by omega)]
/-- all of its numbers are stored -/
theorem Summons.Own.put {B b : Nat} {w : World} {ts : List Summons} {k : Nat} (x : Summons) (h : Summons.Own B w (some ⟨b, 0, none⟩) ts.length (Summons.flat ts)) (hk : k < ts.length) :
    Summons.Own B (((((w.setCell ⟨b, k * 5, none⟩ (.int .i64 x.num)).setCell ⟨b, k * 5 + 1, none⟩ (.int .i64 x.sent)).setCell ⟨b, k * 5 + 2, none⟩ (.int .i64 x.due)).setCell ⟨b, k * 5 + 3, none⟩ (.int .i64 x.ans)).setCell ⟨b, k * 5 + 4, none⟩ (.int .i64 x.done)) (some ⟨b, 0, none⟩) (ts.set k x).length (Summons.flat (ts.set k x)) := by
  rcases h with h | ⟨b', f, N, e, hB, hN, hr, hf⟩
  · omega
  · cases e
    refine .inr ⟨b, _, N, rfl, hB, by rw [List.length_set]; exact hN, ((((hr.set (k * 5) (.int .i64 x.num)).set (k * 5 + 1) (.int .i64 x.sent)).set (k * 5 + 2) (.int .i64 x.due)).set (k * 5 + 3) (.int .i64 x.ans)).set (k * 5 + 4) (.int .i64 x.done), ?_⟩
    refine own_put9 hk hf (fun r hr' => ?_) (fun i hi => ?_)
    · have hc : r = 0 ∨ r = 1 ∨ r = 2 ∨ r = 3 ∨ r = 4 := by omega
      rcases hc with rfl | rfl | rfl | rfl | rfl
      · rw [if_neg (by omega), if_neg (by omega), if_neg (by omega), if_neg (by omega), if_pos (Nat.add_zero _)]; rfl
      · rw [if_neg (by omega), if_neg (by omega), if_neg (by omega), if_pos rfl]; rfl
      · rw [if_neg (by omega), if_neg (by omega), if_pos rfl]; rfl
      · rw [if_neg (by omega), if_pos rfl]; rfl
      · rw [if_pos rfl]; rfl
    · rw [if_neg (by omega), if_neg (by omega), if_neg (by omega), if_neg (by omega), if_neg (by omega)]
theorem Summons.Own.frozen {B b len : Nat} {w : World} {g : Nat → Int} (h : Summons.Own B w (some ⟨b, 0, none⟩) len g) (hl : 0 < len) (j : Nat) : w.frozen? ⟨b, j, none⟩ = false := by
  rcases h with h | ⟨b', f, N, e, hB, hN, hr, hf⟩
  · omega
  · cases e; exact hr.frozen j
theorem Summons.Own.base9 {B b len : Nat} {w : World} {g : Nat → Int} (h : Summons.Own B w (some ⟨b, 0, none⟩) len g) (hl : 0 < len) : B ≤ b := by
  rcases h with h | ⟨b', f, N, e, hB, hN, hr, hf⟩
  · omega
  · cases e; exact hB
/-- the cells of the k-th -/
theorem Summons.Own.cells {B b : Nat} {w : World} {ts : List Summons} {k : Nat} {s : Summons} (h : Summons.Own B w (some ⟨b, 0, none⟩) ts.length (Summons.flat ts)) (hs : ts[k]? = some s) : Summons.At w b (k * 5) s := by
  rcases Summons.Own.reads h with h0 | ⟨b', off, e, hc⟩
  · rw [h0] at hs; simp at hs
  · cases e; have := hc k s hs; rwa [Nat.zero_add] at this
/-- a struct's own box as a row -/
theorem Summons.box_row (w : World) (c : Summons) (T : TypeId) : (w.alloc (.cells #[.int .i64 c.num, .int .i64 c.sent, .int .i64 c.due, .int .i64 c.ans, .int .i64 c.done] T)).rowIs w.heap.size T 5 (fun j => .int .i64 (c.nth j)) := by
  refine World.rowIs_alloc w #[.int .i64 c.num, .int .i64 c.sent, .int .i64 c.due, .int .i64 c.ans, .int .i64 c.done] T _ (fun i hi => ?_)
  have hi : i < 5 := hi
  have hc : i = 0 ∨ i = 1 ∨ i = 2 ∨ i = 3 ∨ i = 4 := by omega
  rcases hc with rfl | rfl | rfl | rfl | rfl <;> rfl
/-- what a list that was built gives -/
theorem Summons.Bd.own9 {w : World} {B : Nat} {v : Value} {ts : List Summons} (h : Summons.Bd w B v ts) (h0 : 0 < ts.length) : ∃ b cap, v = .slice (some ⟨b, 0, none⟩) ts.length cap ∧ Summons.Own B w (some ⟨b, 0, none⟩) ts.length (Summons.flat ts) := by
  rcases h.parts with ⟨_, rfl⟩ | h
  · simp at h0
  · obtain ⟨a, cap, rfl, ho⟩ := h.own
    obtain ⟨b, rfl, _⟩ := ho.at h0
    exact ⟨b, cap, rfl, ho⟩
end Go.Proofs.YtchffaohmeaccaaDoor
