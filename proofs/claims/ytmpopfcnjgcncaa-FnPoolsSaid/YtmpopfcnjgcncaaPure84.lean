/- Plain facts on pools: draws along states that come one after the other. No program is imported here. -/
import Derived.Test.YtmpopfcnjgcncaaPure80
import Derived.Test.YtmpopfcnjgcncaaPure83
import Derived.Test.YtmpopfcnjgcncaaPure31
namespace Go.Proofs.Ytmpopfcnjgcncaa.Pure84
open Go.RowKit Pure2 Pure30 Pure31 Pure60 Pure80 Pure83

/-- one draw in the state with the index i behind s -/
def drawS (ns : List Int) (s : Int) (d : List Int × Int) (i : Nat) : List Int × Int := (d.1 ++ [pick ns d.1 (nxs s (i + 1))], nxs s (i + 1))
/-- draws in some states, in whatever order they come -/
def drawF (ns : List Int) (s : Int) (d : List Int × Int) (l : List Nat) : List Int × Int := l.foldl (drawS ns s) d
theorem drawF_nil (ns : List Int) (s : Int) (d : List Int × Int) : drawF ns s d [] = d := rfl
theorem drawF_snoc (ns : List Int) (s : Int) (d : List Int × Int) (l : List Nat) (i : Nat) : drawF ns s d (l ++ [i]) = drawS ns s (drawF ns s d l) i := by
  unfold drawF; rw [List.foldl_append]; rfl
theorem drawN_state_nxs (ns ds : List Int) (s : Int) (j : Nat) : (drawN ns ds s j).2 = nxs s j := by
  induction j with
  | zero => rfl
  | succ j ih => rw [drawN, nxs_succ, ih]
theorem drawF_range (ns ds : List Int) (s : Int) (j : Nat) : drawF ns s (ds, s) (List.range j) = drawN ns ds s j := by
  induction j with
  | zero => rfl
  | succ j ih => rw [List.range_succ, drawF_snoc, ih, drawS, drawN, nxs_succ, drawN_state_nxs]
/-- of numbers told apart, each of the pool: what is drawn so is such again -/
structure Good (ns : List Int) (n : Nat) (d : List Int × Int) : Prop where
  nodup : d.1.Nodup
  sub : ∀ x ∈ d.1, x ∈ ns
  len : d.1.length = n
  state : 1 ≤ d.2 ∧ d.2 ≤ 2147483646
theorem Good.left {ns : List Int} {n : Nat} {d : List Int × Int} (h : Good ns n d) (h1 : ns.Nodup) : (leftL ns d.1).length + n = ns.length := by
  have := leftL_length h1 h.nodup h.sub
  rw [h.len] at this; exact this
theorem Good.step {ns : List Int} {n : Nat} {d : List Int × Int} {s : Int} (h : Good ns n d) (h1 : ns.Nodup) (hs : 1 ≤ s ∧ s ≤ 2147483646) (hn : n < ns.length) (i : Nat) : Good ns (n + 1) (drawS ns s d i) := by
  have hl := h.left h1
  have ht := nxs_state hs (i + 1)
  have hp := pick_mem (ns := ns) (ds := d.1) ht (by omega)
  refine ⟨?_, ?_, ?_, ht⟩
  · show (d.1 ++ [pick ns d.1 (nxs s (i + 1))]).Nodup
    rw [List.nodup_append]
    refine ⟨h.nodup, by simp, ?_⟩
    intro a ha b hb e
    rw [List.mem_singleton] at hb
    subst hb e
    exact hp.2 ha
  · intro x hx
    have hx' : x ∈ d.1 ++ [pick ns d.1 (nxs s (i + 1))] := hx
    rw [List.mem_append, List.mem_singleton] at hx'
    rcases hx' with hx' | rfl
    · exact h.sub x hx'
    · exact hp.1
  · show (d.1 ++ [pick ns d.1 (nxs s (i + 1))]).length = n + 1
    rw [List.length_append, h.len]; rfl
theorem good_start {p : PoolV} (h : isPool p = true) : Good p.nums p.drawn.length (p.drawn, p.state) := ⟨pool_dnodup h, pool_sub h, rfl, pool_state h⟩
theorem drawF_good {p : PoolV} (h : isPool p = true) : ∀ (l : List Nat), p.drawn.length + l.length ≤ p.nums.length → Good p.nums (p.drawn.length + l.length) (drawF p.nums p.state (p.drawn, p.state) l) := by
  intro l
  generalize hr : l.reverse = r
  induction r generalizing l with
  | nil =>
    have e : l = [] := by simpa using hr
    subst e
    intro _
    exact good_start h
  | cons i r ih =>
    have e : l = r.reverse ++ [i] := by rw [← List.reverse_reverse l, hr, List.reverse_cons]
    subst e
    intro hl
    rw [List.length_append, List.length_singleton] at hl ⊢
    rw [drawF_snoc]
    exact (ih r.reverse (by simp) (by omega)).step (pool_nodup h) (pool_state h) (by omega) i
end Go.Proofs.Ytmpopfcnjgcncaa.Pure84
