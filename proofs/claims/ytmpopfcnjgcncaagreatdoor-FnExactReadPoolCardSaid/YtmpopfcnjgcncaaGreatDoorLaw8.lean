/- Chapter 8's answers as the laws ask for them: in memory of their own. -/
import Derived.Test.YtmpopfcnjgcncaaGreatDoorChecked
import Derived.Test.YtmpopfcnjgcncaaGreatDoorBase0
import Derived.Test.YtmpopfcnjgcncaaGreatDoorInfo
import Derived.Test.YtmpopfcnjgcncaaGreatDoorMarkI
import Derived.Test.YtmpopfcnjgcncaaGreatDoorEqInt
import Derived.Test.YtmpopfcnjgcncaaGreatDoorBuildI
import Derived.Test.YtmpopfcnjgcncaaGreatDoorBuild8
import Derived.Test.YtmpopfcnjgcncaaGreatDoorRowV
import Derived.Test.YtmpopfcnjgcncaaGreatDoorSpec80
import Derived.Test.YtmpopfcnjgcncaaGreatDoorSpec81
import Derived.Test.YtmpopfcnjgcncaaGreatDoorSpec83
import Derived.Test.YtmpopfcnjgcncaaGreatDoorPoolA
import Derived.Test.YtmpopfcnjgcncaaGreatDoorPoolB
import Derived.WalkKit
import Derived.WalkSpells
import Derived.WalkLawsBesides
import Derived.Lib.Hide
import Derived.Outline
namespace Go.Proofs.YtmpopfcnjgcncaaGreatDoor
open Go.RowKit Pure1 Pure2 Pure30 Pure40 Pure80 Rec

theorem from_step {s : Nat} {u w w' : World} (h : Below s u w) (hu : s ≤ u.heap.size) (hb : Below w.heap.size w w') : Below s u w' := h.trans (hb.mono (Nat.le_trans hu h.size))
theorem sameB {P : Program} {f : FuncId} {args : Array Value} {w : World} {xs : List Int} (h : Calls P f args w (SaysB (sameL xs xs) w)) : Calls P f args w fun e w' => e = .returned (.bool true) ∧ Below w.heap.size w w' :=
  h.mono fun e w' ⟨he, n, hw⟩ => ⟨by rw [he, sameL_self], by rw [hw]; exact Go.below_drewN (Below.refl _ _) n⟩
/-- a list of our own that lies behind all that turned -/
theorem ownI_past {S : List (Option Addr)} {B C D : Nat} {w w' : World} {a : Option Addr} {len : Nat} {g : Nat → Int} (h : OwnI D w a len g) (ht : Turn S B C w w') (hS : ∀ x, some x ∈ S → x.block < D) : OwnI D w' a len g := by
  rcases h with h | ⟨b, f, N, rfl, hB, hN, hr, hf⟩
  · exact .inl h
  · exact .inr ⟨b, f, N, rfl, hB, hN, hr.of_block (ht.2.2.2.2 b hr.lt (.inr (.inr fun x hx e => by have := hS x hx; omega))), hf⟩
/-- a pool of our own and a code -/
def SaysNewP (q : PoolV) (n : Int) (w : World) (e : Ending) (w' : World) : Prop :=
  ∃ a0 e0 a1 e1, e = .returned (.tuple #[.agg #[.slice a0 q.nums.length e0, .slice a1 q.drawn.length e1, .int .i64 q.state], .int .i64 n]) ∧ OwnI w.heap.size w' a0 q.nums.length (fun i => q.nums.getD i 0) ∧ OwnI w.heap.size w' a1 q.drawn.length (fun i => q.drawn.getD i 0) ∧ Apart a0 a1 ∧
    (∀ x, a0 = some x → w.heap.size ≤ x.block ∧ x.block < w'.heap.size) ∧ (∀ x, a1 = some x → w.heap.size ≤ x.block ∧ x.block < w'.heap.size) ∧ Below w.heap.size w w'
theorem BuildI.near {B : Nat} {w : World} {a : Option Addr} {len cap : Nat} {zs : List Int} (h : BuildI B w (.slice a len cap) zs) : ∀ x, a = some x → B ≤ x.block ∧ x.block < w.heap.size := by
  rintro x rfl
  exact h.lt x.block rfl
theorem SaysPool.newP {q : PoolV} {n : Int} {w w' : World} {e : Ending} (h : SaysPool q n w e w') : SaysNewP q n w e w' := by
  obtain ⟨v0, v1, rfl, h0, h1, hA, hB⟩ := h
  obtain ⟨a0, e0, rfl, _, o0⟩ := h0.own
  obtain ⟨a1, e1, rfl, _, o1⟩ := h1.own
  refine ⟨a0, e0, a1, e1, rfl, o0, o1, ?_, h0.near, h1.near, hB⟩
  rintro x y rfl rfl he
  exact hA x.block rfl (by rw [he]; rfl)
theorem PoolV.Box.turn {S : List (Option Addr)} {B C b : Nat} {w w' : World} {a0 : Option Addr} {l0 c0 : Nat} {a1 : Option Addr} {l1 c1 : Nat} {p : PoolV} (h : PoolV.Box w b a0 l0 c0 a1 l1 c1 p) (ht : Turn S B C w w') (hlt : b < w.heap.size) (hb : b < B ∨ C ≤ b ∨ ∀ x, some x ∈ S → x.block ≠ b) : PoolV.Box w' b a0 l0 c0 a1 l1 c1 p := by
  have hk := ht.2.2.2.2 b hlt hb
  unfold PoolV.Box at h ⊢
  unfold World.cell? at h ⊢
  rw [hk]; exact h
theorem ownP_in {B : Nat} {w : World} {a0 a1 : Option Addr} {q : PoolV} (h0 : OwnI B w a0 q.nums.length (fun i => q.nums.getD i 0)) (h1 : OwnI B w a1 q.drawn.length (fun i => q.drawn.getD i 0)) (m0 : q.nums.length ≤ 1048576) (m1 : q.drawn.length ≤ 1048576) : PoolV.In w a0 q.nums.length a1 q.drawn.length q :=
  ⟨⟨rfl, by unfold maxLen; omega, ownI_reads h0⟩, ⟨rfl, by unfold maxLen; omega, ownI_reads h1⟩⟩
theorem makeR_small (zs : List Int) (s : Int) : (makeR zs s).1.nums.length ≤ 60 ∧ (makeR zs s).1.drawn.length ≤ 60 := by
  unfold makeR
  split
  · rename_i h; exact ⟨pool_len h, Nat.zero_le _⟩
  · exact ⟨Nat.zero_le _, Nat.zero_le _⟩
/-- a pool of our own, numbers of our own and a code -/
def SaysNewT8 (q : PoolV) (xs : List Int) (n : Int) (w : World) (e : Ending) (w' : World) : Prop :=
  ∃ a0 e0 a1 e1 a2 e2, e = .returned (.tuple #[.agg #[.slice a0 q.nums.length e0, .slice a1 q.drawn.length e1, .int .i64 q.state], .slice a2 xs.length e2, .int .i64 n]) ∧ OwnI w.heap.size w' a0 q.nums.length (fun i => q.nums.getD i 0) ∧ OwnI w.heap.size w' a1 q.drawn.length (fun i => q.drawn.getD i 0) ∧ OwnI w.heap.size w' a2 xs.length (fun i => xs.getD i 0) ∧ Apart a0 a1 ∧ Apart a0 a2 ∧ Apart a1 a2 ∧
    (∀ x, a0 = some x → w.heap.size ≤ x.block ∧ x.block < w'.heap.size) ∧ (∀ x, a1 = some x → w.heap.size ≤ x.block ∧ x.block < w'.heap.size) ∧ (∀ x, a2 = some x → w.heap.size ≤ x.block ∧ x.block < w'.heap.size) ∧ Below w.heap.size w w'
theorem apart_ofV {a a' : Option Addr} {l c l' c' : Nat} (h : ApartV (.slice a l c) (.slice a' l' c')) : Apart a a' := by
  rintro x y rfl rfl he
  exact h x.block rfl (by rw [he]; rfl)
theorem SaysTake.newT {q : PoolV} {xs : List Int} {n : Int} {w w' : World} {e : Ending} (h : SaysTake q xs n w e w') : SaysNewT8 q xs n w e w' := by
  obtain ⟨v0, v1, v2, rfl, h0, h1, h2, hA, hB, hC, hW⟩ := h
  obtain ⟨a0, e0, rfl, _, o0⟩ := h0.own
  obtain ⟨a1, e1, rfl, _, o1⟩ := h1.own
  obtain ⟨a2, e2, rfl, _, o2⟩ := h2.own
  exact ⟨a0, e0, a1, e1, a2, e2, rfl, o0, o1, o2, apart_ofV hA, apart_ofV hB, apart_ofV hC, h0.near, h1.near, h2.near, hW⟩
theorem takeR_small (p : PoolV) (k : Int) : (takeR p k).1.nums.length ≤ 60 ∧ (takeR p k).1.drawn.length ≤ 60 ∧ (takeR p k).2.1.length ≤ 60 := by
  unfold takeR
  split
  · rename_i h
    obtain ⟨h1, h2, h3⟩ := take_good h
    have h4 := pool_len h1
    refine ⟨h4, ?_, ?_⟩
    · show (drawN p.nums p.drawn p.state k.toNat).1.length ≤ 60
      rw [drawN_length]; omega
    · show (outN p.nums p.drawn p.state k.toNat).length ≤ 60
      rw [outN_length]; omega
  · exact ⟨Nat.zero_le _, Nat.zero_le _, Nat.zero_le _⟩
theorem putR_small (p : PoolV) (bs : List Int) : (putR p bs).1.nums.length ≤ 60 ∧ (putR p bs).1.drawn.length ≤ 60 := by
  unfold putR
  split
  · rename_i h
    have h1 : isPool p = true := by
      unfold putC at h
      split at h
      · assumption
      · cases h
    have h2 := pool_len h1
    have h3 := pool_dlen h1
    exact ⟨h2, Nat.le_trans (leftL_le _ _) (by omega)⟩
  · exact ⟨Nat.zero_le _, Nat.zero_le _⟩
end Go.Proofs.YtmpopfcnjgcncaaGreatDoor
