/- Plain facts on the source that hands out drawn numbers. No program is imported here. -/
import Derived.Test.YtchffaohmeaccaaDoorPure2
import Derived.WalkKit
import Derived.WalkSpells
import Derived.WalkLawsBesides
namespace Go.Proofs.YtchffaohmeaccaaDoor.Pure6
open Go.RowKit Pure2

/-- The slice at address a reads, from its head on, the bytes bs; it lies below block B. -/
def BytesAt (B : Nat) (w : World) (a : Option Addr) (bs : List Int) : Prop :=
  (∀ x ∈ bs, 0 ≤ x ∧ x ≤ 255) ∧ (bs = [] ∨ ∃ b off, a = some ⟨b, off, none⟩ ∧ b < B ∧ ∀ i x, bs[i]? = some x → w.cell? ⟨b, off + i, none⟩ = some (.int .u8 x))
theorem BytesAt.at {B : Nat} {w : World} {a : Option Addr} {bs : List Int} (h : BytesAt B w a bs) {k len : Nat} (hl : bs.length = len) (hk : k < len) :
    ∃ b off x, a = some ⟨b, off, none⟩ ∧ b < B ∧ w.cell? ⟨b, off + k, none⟩ = some (.int .u8 x) ∧ 0 ≤ x ∧ x ≤ 255 := by
  obtain ⟨hb, h⟩ := h
  have hx : bs[k]? = some bs[k] := List.getElem?_eq_getElem (by omega)
  rcases h with rfl | ⟨b, off, rfl, hB, hc⟩
  · simp at hl; omega
  · have := hb _ (List.mem_of_getElem? hx)
    exact ⟨b, off, _, rfl, hB, hc k _ hx, this.1, this.2⟩
theorem BytesAt.below {B : Nat} {w w' : World} {a : Option Addr} {bs : List Int} (h : BytesAt B w a bs) (hB : Below B w w') : BytesAt B w' a bs := by
  refine ⟨h.1, ?_⟩
  rcases h.2 with rfl | ⟨b, off, rfl, hb, hc⟩
  · exact .inl rfl
  · exact .inr ⟨b, off, rfl, hb, fun i x hx => by rw [hB.cell (p := ⟨b, off + i, none⟩) hb]; exact hc i x hx⟩

/-- the state of a source (block b, from block B on): its code lies below B and has at most 4096 bytes; its place is within the code; its seed is within 0 .. 2147483646 -/
def Src (B : Nat) (T : TypeId) (w : World) (b : Nat) : Prop :=
  ∃ a cap bs k seed, B ≤ b ∧ w.heap[b]? = some (.cells #[.slice a bs.length cap, .int .i64 (k : Nat), .int .i64 seed] T (0, 0)) ∧ k ≤ bs.length ∧ bs.length ≤ 4096 ∧ 0 ≤ seed ∧ seed < 2147483647 ∧ BytesAt B w a bs

theorem src_cells {w : World} {b : Nat} {T : TypeId} {u v x : Value} (h : w.heap[b]? = some (.cells #[u, v, x] T (0, 0))) :
    w.cell? ⟨b, 0, none⟩ = some u ∧ w.cell? ⟨b, 1, none⟩ = some v ∧ w.cell? ⟨b, 2, none⟩ = some x ∧ w.frozen? ⟨b, 0, none⟩ = false ∧ w.frozen? ⟨b, 1, none⟩ = false ∧ w.frozen? ⟨b, 2, none⟩ = false := by
  simp [World.cell?, World.frozen?, h]
theorem block_set {w : World} {b : Nat} {T : TypeId} {u v x y : Value} (h : w.heap[b]? = some (.cells #[u, v, x] T (0, 0))) :
    (w.setCell ⟨b, 2, none⟩ y).heap[b]? = some (.cells #[u, v, y] T (0, 0)) ∧ (w.setCell ⟨b, 1, none⟩ y).heap[b]? = some (.cells #[u, y, x] T (0, 0)) := by
  simp [World.setCell, Array.getElem?_modify, h]

theorem grown_set (w : World) (b o : Nat) (v : Value) : w.grownBy (w.setCell ⟨b, o, none⟩ v) (some b) :=
  ⟨rfl, rfl, rfl, by simp [World.setCell], fun k _ hk => Below.heap_setCell _ _ _ _ (by intro e; subst e; exact hk rfl)⟩
theorem grown_refl (w : World) (r : Option Nat) : w.grownBy w r := ⟨rfl, rfl, rfl, Nat.le_refl _, fun _ _ _ => rfl⟩
theorem grown_trans {w w' w'' : World} {r : Option Nat} (h : w.grownBy w' r) (h' : w'.grownBy w'' r) : w.grownBy w'' r :=
  ⟨h'.os.trans h.os, h'.tape.trans h.tape, h'.output.trans h.output, Nat.le_trans h.size h'.size, fun k hk hr => (h'.block k (Nat.lt_of_lt_of_le hk h.size) hr).trans (h.block k hk hr)⟩
theorem grown_drewN {w w' : World} {r : Option Nat} (h : w.grownBy w' r) (n : Nat) : w.grownBy (w'.drewN n) r := ⟨h.os, h.tape, h.output, h.size, h.block⟩
theorem grown_below {w w' : World} {b B : Nat} (h : w.grownBy w' (some b)) (hb : B ≤ b) (hB : B ≤ w.heap.size) : Below B w w' :=
  ⟨h.os, h.tape, h.output, h.size, fun k hk => h.block k (by omega) (fun e => by cases e; omega)⟩
theorem Src.lt {B : Nat} {T : TypeId} {w : World} {b : Nat} (h : Src B T w b) : b < w.heap.size := by
  obtain ⟨a, cap, bs, k, seed, _, hh, _⟩ := h
  exact (Array.getElem?_eq_some_iff.1 hh).1
theorem Src.base {B : Nat} {T : TypeId} {w : World} {b : Nat} (h : Src B T w b) : B ≤ b := by
  obtain ⟨a, cap, bs, k, seed, h, _⟩ := h; exact h
/-- other memory may change -/
theorem Src.kept {B : Nat} {T : TypeId} {w w' : World} {b : Nat} (h : Src B T w b) (hk : w'.heap[b]? = w.heap[b]?) (hB : Below B w w') : Src B T w' b := by
  obtain ⟨a, cap, bs, k, seed, h1, h2, h3, h4, h5, h6, h7⟩ := h
  exact ⟨a, cap, bs, k, seed, h1, hk.trans h2, h3, h4, h5, h6, h7.below hB⟩

/-- what handing out a number below n says -/
def Drawn (B : Nat) (T : TypeId) (b : Nat) (n : Int) (w : World) (e : Ending) (w' : World) : Prop :=
  ∃ x, e = .returned (.int .i64 x) ∧ (1 < n → 0 ≤ x ∧ x < n) ∧ (n ≤ 1 → x = 0) ∧ Src B T w' b ∧ w.grownBy w' (some b)
theorem drawn_none {B : Nat} {T : TypeId} {w : World} {b : Nat} {a : Option Addr} {cap len : Nat} {bs : List Int} {k : Nat} {seed s' n x : Int} (hBb : B ≤ b) (hB : B ≤ w.heap.size)
    (hh : w.heap[b]? = some (.cells #[.slice a bs.length cap, .int .i64 (k : Nat), .int .i64 seed] T (0, 0))) (hl : len = bs.length) (hk : k ≤ len) (hbl : len ≤ 4096) (h0 : 0 ≤ s') (h1 : s' < 2147483647) (hy : BytesAt B w a bs)
    (hn : 1 < n) (hx : 0 ≤ x) (hx' : x < n) (m : Nat) : Drawn B T b n w (.returned (.int .i64 x)) ((w.setCell ⟨b, 2, none⟩ (.int .i64 s')).drewN m) := by
  subst hl
  have hg : w.grownBy ((w.setCell ⟨b, 2, none⟩ (.int .i64 s')).drewN m) (some b) := grown_drewN (grown_set w b 2 _) m
  exact ⟨x, rfl, fun _ => ⟨hx, hx'⟩, fun h => by omega, ⟨a, cap, bs, k, s', hBb, (block_set hh).1, hk, hbl, h0, h1, hy.below (grown_below hg hBb hB)⟩, hg⟩
theorem drawn_one {B : Nat} {T : TypeId} {w : World} {b : Nat} {a : Option Addr} {cap len : Nat} {bs : List Int} {k : Nat} {seed s' n x : Int} (hBb : B ≤ b) (hB : B ≤ w.heap.size)
    (hh : w.heap[b]? = some (.cells #[.slice a bs.length cap, .int .i64 (k : Nat), .int .i64 seed] T (0, 0))) (hl : len = bs.length) (hk : k < len) (hbl : len ≤ 4096) (h0 : 0 ≤ s') (h1 : s' < 2147483647) (hy : BytesAt B w a bs)
    (hn : 1 < n) (hx : 0 ≤ x) (hx' : x < n) (m m' : Nat) : Drawn B T b n w (.returned (.int .i64 x)) ((((w.setCell ⟨b, 2, none⟩ (.int .i64 s')).drewN m).setCell ⟨b, 1, none⟩ (.int .i64 ((k : Int) + 1))).drewN m') := by
  subst hl
  have hg : w.grownBy ((((w.setCell ⟨b, 2, none⟩ (.int .i64 s')).drewN m).setCell ⟨b, 1, none⟩ (.int .i64 ((k : Int) + 1))).drewN m') (some b) :=
    grown_drewN (grown_trans (grown_drewN (grown_set w b 2 _) m) (grown_set _ b 1 _)) m'
  refine ⟨x, rfl, fun _ => ⟨hx, hx'⟩, fun h => by omega, ⟨a, cap, bs, k + 1, s', hBb, ?_, hk, hbl, h0, h1, hy.below (grown_below hg hBb hB)⟩, hg⟩
  have h2 := (block_set (y := .int .i64 s') hh).1
  have h3 := (block_set (w := (w.setCell ⟨b, 2, none⟩ (.int .i64 s')).drewN m) (y := .int .i64 ((k : Int) + 1)) h2).2
  exact h3
theorem grown_alloc (w : World) (o : Obj) (r : Option Nat) : w.grownBy (w.alloc o) r :=
  ⟨rfl, rfl, rfl, by simp, fun k hk _ => Below.heap_alloc _ _ _ hk⟩
theorem Src.alloc {B : Nat} {T : TypeId} {w : World} {b : Nat} (h : Src B T w b) (o : Obj) : Src B T (w.alloc o) b :=
  h.kept (Below.heap_alloc _ _ _ h.lt) ((Below.refl _ _).alloc (Nat.le_trans h.base (Nat.le_of_lt h.lt)) _)
theorem alloc_ints (w : World) (T : TypeId) (zs : List Int) : ∀ i x, zs[i]? = some x → (w.alloc (.cells (zs.map (Value.int .i64)).toArray T)).cell? ⟨w.heap.size, i, none⟩ = some (.int .i64 x) := by
  intro i x hx
  have : (w.alloc (.cells (zs.map (Value.int .i64)).toArray T)).heap[w.heap.size]? = some (.cells (zs.map (Value.int .i64)).toArray T) := heap_alloc_new w _
  unfold World.cell?
  rw [this]
  simp [hx]
theorem intsAt_of_owns {w : World} {base e n : Nat} {v : Value} {zs : List Int} (h : w.ownsRow base e 1 v n (zs.map (Value.int .i64))) : ∃ a cap, v = .slice a n cap ∧ n ≤ cap ∧ IntsAt w a zs := by
  obtain ⟨h1, h2 | ⟨g, cap, cur, hv, hg, hh, hn, hc, hs, hr⟩⟩ := h
  · obtain ⟨rfl, rfl⟩ := h2
    exact ⟨none, 0, rfl, Nat.le_refl _, .inl (by simpa using h1)⟩
  · rw [Nat.mul_one] at hr hs
    refine ⟨_, cap, hv, hn, .inr ⟨g, 0, rfl, fun i x hx => ?_⟩⟩
    have hx' : (zs.map (Value.int .i64))[i]? = some (.int .i64 x) := by rw [List.getElem?_map, hx]; rfl
    rw [← hr, List.getElem?_take] at hx'
    split at hx'
    · rw [Array.getElem?_toList] at hx'
      simp [World.cell?, hh, hx']
    · cases hx'
/-- some number is handed out -/
def Gave (B : Nat) (T : TypeId) (b : Nat) (w : World) (e : Ending) (w' : World) : Prop := ∃ x, e = .returned (.int .i64 x) ∧ Src B T w' b ∧ w.grownBy w' (some b)
theorem BytesAt.mono {B B' : Nat} {w : World} {a : Option Addr} {bs : List Int} (h : BytesAt B w a bs) (hB : B ≤ B') : BytesAt B' w a bs := by
  refine ⟨h.1, ?_⟩
  rcases h.2 with rfl | ⟨b, off, rfl, hb, hc⟩
  · exact .inl rfl
  · exact .inr ⟨b, off, rfl, by omega, hc⟩
theorem BytesAt.later {w w' : World} {a : Option Addr} {bs : List Int} (h : BytesAt w.heap.size w a bs) (hB : Below w.heap.size w w') : BytesAt w'.heap.size w' a bs := (h.below hB).mono hB.size

end Go.Proofs.YtchffaohmeaccaaDoor.Pure6
