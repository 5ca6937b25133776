/- Merged: the texts Within Incr Pure31 St8 Seq8 Vals8, in their order. -/
import Derived.Test.YtjnicmlomjppnaaGreatDoorChecked
import Derived.Test.YtjnicmlomjppnaaGreatDoorBase0
import Derived.WalkKit
import Derived.WalkSpells
import Derived.WalkLawsBesides
import Derived.Lib.Hide
import Derived.Outline
import Derived.IntWalk
import Derived.RangeFuncNested
import Derived.RangeFuncBound
import Derived.RangeFuncCalls
import Derived.RangeFuncLeaves
import Derived.RangeFuncFrom
import Derived.Shelf.Abstract
import Derived.Shelf.RegionOpen
import Derived.OwnWalkIn
import Derived.TacticsInMore
import Derived.LoopNIn
import Derived.LoopIn
import Derived.Deep.OwnRows
import Derived.Test.YtjnicmlomjppnaaGreatDoorInfo
import Derived.Test.YtjnicmlomjppnaaGreatDoorPure83
import Derived.Test.YtjnicmlomjppnaaGreatDoorIntL
import Derived.Test.YtjnicmlomjppnaaGreatDoorBuildI
import Derived.Test.YtjnicmlomjppnaaGreatDoorBuild8
import Derived.Test.YtjnicmlomjppnaaGreatDoorRowV
/- Contract: impl.isWithin. -/
namespace Go.Proofs.YtjnicmlomjppnaaGreatDoor
open Go.RowKit Pure1 Pure40

theorem implWithin_any (n a b : Int) (w : World) :
    Calls Tryz.prog 53 #[.int .i64 n, .int .i64 a, .int .i64 b] w fun e w' => e = .returned (.bool (inR n a b)) ∧ w' = w := by
  by_cases h1 : a ≤ n
  · go_enter Tryz.func53, Tryz.ntmps53
    go_wp2
    go_ret
    exact ⟨ret_bool (by simp [inR, h1]), rfl⟩
  · have h3 : decide (a ≤ n) = false := decide_eq_false h1
    have h1' : n < a := by omega
    go_enter Tryz.func53, Tryz.ntmps53
    go_wp2
    go_ret
    exact ⟨ret_bool (by simp only [inR, h3, Bool.false_and]), rfl⟩

end Go.Proofs.YtjnicmlomjppnaaGreatDoor
/- Contract: impl.areIncreasing. -/
namespace Go.Proofs.YtjnicmlomjppnaaGreatDoor
open Go.RowKit Pure2 Pure40 Pure60

/-- two neighbours of a list, where they lie -/
theorem ints_two {w : World} {a : Option Addr} {zs : List Int} {len : Nat} (h : IntsAt w a zs) (hl : zs.length = len) {j : Nat} (hj : j + 1 < len) :
    ∃ b off x y, a = some ⟨b, off, none⟩ ∧ w.cell? ⟨b, off + j, none⟩ = some (.int .i64 x) ∧ w.cell? ⟨b, off + (j + 1), none⟩ = some (.int .i64 y) ∧ zs[j]? = some x ∧ zs[j + 1]? = some y := by
  obtain ⟨b, off, x, ha, hc, _, hx⟩ := h.at hl (show j < len by omega)
  obtain ⟨b', off', y, ha', hc', _, hy⟩ := h.at hl hj
  rw [ha] at ha'; cases ha'
  exact ⟨b, off, x, y, ha, hc, hc', hx, hy⟩

theorem inR_of {x lo hi : Int} (h : inR x lo hi = true) : lo ≤ x ∧ x ≤ hi := inR_iff.1 h
theorem inR_not {x lo hi : Int} (h : inR x lo hi = false) : ¬ (lo ≤ x ∧ x ≤ hi) := fun hh => by rw [inR_iff.2 hh] at h; cases h

set_option maxHeartbeats 400000 in
theorem implIncr_any (c : Nat) (ci lo hi : Int) (hci : ci = c) (a : Option Addr) (len cap : Nat) (zs : List Int) (w : World) (hl : zs.length = len) (hm : len ≤ maxLen) (h : IntsAt w a zs) :
    Calls Tryz.prog 30 #[.slice a len cap, .int .i64 ci, .int .i64 lo, .int .i64 hi] w fun e w' => e = .returned (.bool (rises c lo hi zs)) ∧ w = w' := by
  unfold maxLen at hm
  have HL := Lib.hid hl; have HI := Lib.hid h; have HCI := Lib.hid hci; clear hl h hci
  by_cases h40 : (len : Int) ≤ ci
  · go_enter Tryz.func30, Tryz.ntmps30
    go_wp2
    go_loop [9, 10, 17] (fun _ _ i => ∃ k : Nat, k ≤ len ∧ i = .int .i64 k ∧ RisesTo lo hi zs k) (fun _ _ i => len - (intOf i).toNat)
    case atStart => exact ⟨0, Nat.zero_le _, rfl, risesTo_zero lo hi zs⟩
    case round =>
      obtain ⟨k, hk, rfl, hto⟩ := hrel
      have HT := Lib.hid hto; clear hto
      by_cases hlt : k < len
      · by_cases h0 : 0 < k
        · obtain ⟨j, rfl⟩ : ∃ j, k = j + 1 := ⟨k - 1, by omega⟩
          obtain ⟨b, off, x, y, ha, hc, hc', hx, hy⟩ := ints_two HI.out HL.out hlt
          have HX := Lib.hid hx; have HY := Lib.hid hy; clear hx hy
          subst ha
          cases hd : inR y lo hi with
          | true =>
            by_cases hyx : y ≤ x
            · have HN := Lib.hid (rises_down (c := c) (lo := lo) (hi := hi) HX.out HY.out hyx)
              have HD := Lib.hid (implWithin_any y lo hi w); rw [hd] at HD; clear hd
              go_wp2_with (go_at_call 53; refine HD.out.mono ?_; rintro e w' ⟨rfl, rfl⟩)
              go_ret
              exact ⟨ret_bool' HN.out.symm, rfl⟩
            · have HN := Lib.hid (risesTo_next HT.out HX.out HY.out (inR_of hd) hyx)
              have HD := Lib.hid (implWithin_any y lo hi w); rw [hd] at HD; clear hd
              go_wp2_with (go_at_call 53; refine HD.out.mono ?_; rintro e w' ⟨rfl, rfl⟩)
              go_round
              case rel => exact ⟨j + 1 + 1, by omega, by go_num, HN.out⟩
              case measure => simp [intOf]; omega
          | false =>
            have HN := Lib.hid (rises_out (c := c) HY.out (inR_not hd))
            have HD := Lib.hid (implWithin_any y lo hi w); rw [hd] at HD; clear hd
            go_wp2_with (go_at_call 53; refine HD.out.mono ?_; rintro e w' ⟨rfl, rfl⟩)
            go_ret
            exact ⟨ret_bool' HN.out.symm, rfl⟩
        · obtain rfl : k = 0 := by omega
          obtain ⟨b, off, y, ha, hc, _, hy⟩ := HI.out.at HL.out hlt
          rw [Nat.add_zero] at hc
          have HY := Lib.hid hy; clear hy
          subst ha
          cases hd : inR y lo hi with
          | true =>
            have HN := Lib.hid (risesTo_first HY.out (inR_of hd))
            have HD := Lib.hid (implWithin_any y lo hi w); rw [hd] at HD; clear hd
            go_wp2_with (go_at_call 53; refine HD.out.mono ?_; rintro e w' ⟨rfl, rfl⟩)
            go_round
            case rel => exact ⟨1, by omega, by go_num, HN.out⟩
            case measure => simp [intOf]; omega
          | false =>
            have HN := Lib.hid (rises_out (c := c) HY.out (inR_not hd))
            have HD := Lib.hid (implWithin_any y lo hi w); rw [hd] at HD; clear hd
            go_wp2_with (go_at_call 53; refine HD.out.mono ?_; rintro e w' ⟨rfl, rfl⟩)
            go_ret
            exact ⟨ret_bool' HN.out.symm, rfl⟩
      · have HN := Lib.hid (rises_end (c := c) HT.out (by rw [HL.out]; omega) (by rw [HL.out]; have := HCI.out; omega))
        go_wp2
        go_ret
        exact ⟨ret_bool' HN.out.symm, rfl⟩
  · have HN := Lib.hid (rises_long (c := c) (lo := lo) (hi := hi) (zs := zs) (by rw [HL.out]; have := HCI.out; omega))
    go_enter Tryz.func30, Tryz.ntmps30
    go_wp2
    go_ret
    exact ⟨ret_bool' HN.out.symm, rfl⟩

end Go.Proofs.YtjnicmlomjppnaaGreatDoor
/- Plain facts: the answers of chapter 3 as functions. No program is imported here. -/
namespace Go.Proofs.YtjnicmlomjppnaaGreatDoor.Pure31
open Go.RowKit Pure2 Pure30

def isSalt (t : Int) : Bool := decide (0 ≤ t) && decide (t ≤ 2147483646)
theorem isSalt_iff (t : Int) : isSalt t = true ↔ 0 ≤ t ∧ t ≤ 2147483646 := by simp [isSalt]
theorem isSalt_no (t : Int) : isSalt t = false ↔ t < 0 ∨ 2147483646 < t := by rw [← Bool.not_eq_true, isSalt_iff]; omega
def isDrawn (n : Int) : Bool := decide (0 ≤ n) && decide (n ≤ 200)
theorem isDrawn_iff (n : Int) : isDrawn n = true ↔ 0 ≤ n ∧ n ≤ 200 := by simp [isDrawn]
theorem isDrawn_no (n : Int) : isDrawn n = false ↔ n < 0 ∨ 200 < n := by rw [← Bool.not_eq_true, isDrawn_iff]; omega

/-- the answers of chapter 3 -/
def nextR (s : Int) : Int × Int := if 1 ≤ s ∧ s ≤ 2147483646 then (nx s, 0) else (0, 2)
def numR (s n : Int) : Int × Int × Int := if (1 ≤ s ∧ s ≤ 2147483646) ∧ 1 ≤ n ∧ n ≤ 1000000 then (below (nx s) n, nx s, 0) else (0, 0, 2)
def shufR (s n : Int) : List Int × Int := if (1 ≤ s ∧ s ≤ 2147483646) ∧ 0 ≤ n ∧ n ≤ 200 then (shuf s n.toNat, 0) else ([], 2)
def sampR (s n k : Int) : List Int × Int := if ((1 ≤ s ∧ s ≤ 2147483646) ∧ 0 ≤ n ∧ n ≤ 200) ∧ 0 ≤ k ∧ k ≤ n then ((shuf s n.toNat).take k.toNat, 0) else ([], 2)
def comR (s t : Int) : Int × Int := if (1 ≤ s ∧ s ≤ 2147483646) ∧ 0 ≤ t ∧ t ≤ 2147483646 then (commit s t, 0) else (0, 2)
def rightR (c s t n : Int) (zs : List Int) : Bool × Int :=
  if (1 ≤ s ∧ s ≤ 2147483646) ∧ (0 ≤ t ∧ t ≤ 2147483646) ∧ (0 ≤ n ∧ n ≤ 200) ∧ (zs.length : Int) ≤ n then (decide (commit s t = c) && sameL zs ((shuf s n.toNat).take zs.length), 0) else (false, 2)
def statesR (s c : Int) : List Int × Int := if (1 ≤ s ∧ s ≤ 2147483646) ∧ 0 ≤ c ∧ c ≤ 200 then (statesTo s c.toNat, 0) else ([], 2)
/-- the place of a number among shuffled ones -/
def idx (zs : List Int) (x : Int) : Nat := zs.findIdx (fun y => decide (y = x))
def placeR (s n x : Int) : Int × Int := if ((1 ≤ s ∧ s ≤ 2147483646) ∧ 0 ≤ n ∧ n ≤ 200) ∧ 0 ≤ x ∧ x < n then ((idx (shuf s n.toNat) x : Nat), 0) else (0, 2)

theorem idx_of {zs : List Int} {x : Int} {k : Nat} (hx : zs[k]? = some x) (hf : ∀ i, i < k → zs[i]? ≠ some x) : idx zs x = k := by
  obtain ⟨hk, hx'⟩ := List.getElem?_eq_some_iff.1 hx
  unfold idx
  refine (List.findIdx_eq hk).2 ⟨by simp [hx'], fun j hj => ?_⟩
  have := hf j hj
  rw [List.getElem?_eq_getElem (by omega)] at this
  simpa using this
theorem shuf_at {s : Int} (h : 1 ≤ s ∧ s ≤ 2147483646) {n : Nat} {x : Int} (h0 : 0 ≤ x) (h1 : x < n) : ∃ k : Nat, k < n ∧ (shuf s n)[k]? = some x := by
  have := (shuf_mem h n x).2 ⟨h0, h1⟩
  obtain ⟨k, hk, hx⟩ := List.getElem_of_mem this
  exact ⟨k, by rw [shuf_length] at hk; exact hk, by rw [List.getElem?_eq_getElem hk, hx]⟩
theorem shuf_one {s : Int} (h : 1 ≤ s ∧ s ≤ 2147483646) {n i j : Nat} {x : Int} (hi : (shuf s n)[i]? = some x) (hj : (shuf s n)[j]? = some x) : i = j := by
  obtain ⟨h1, e1⟩ := List.getElem?_eq_some_iff.1 hi
  obtain ⟨h2, e2⟩ := List.getElem?_eq_some_iff.1 hj
  have hp := List.pairwise_iff_getElem.1 (shuf_nodup h n)
  rcases Nat.lt_trichotomy i j with h3 | h3 | h3
  · exact absurd (e1.trans e2.symm) (hp i j h1 h2 h3)
  · exact h3
  · exact absurd (e2.trans e1.symm) (hp j i h2 h1 h3)
theorem idx_at {s : Int} (h : 1 ≤ s ∧ s ≤ 2147483646) {n : Nat} {x : Int} (h0 : 0 ≤ x) (h1 : x < n) : idx (shuf s n) x < n ∧ (shuf s n)[idx (shuf s n) x]? = some x := by
  obtain ⟨k, hk, hx⟩ := shuf_at h h0 h1
  have : idx (shuf s n) x = k := idx_of hx (fun i hi e => by have := shuf_one h e hx; omega)
  rw [this]; exact ⟨hk, hx⟩

/-- the exchanges one behind the other, the states counted from the first -/
def exch (s : Int) (n : Nat) (l : List Int) (k : Nat) : List Int := swp l k (place (nxs s (k + 1)) n k)
def exchs (s : Int) (n : Nat) (ks : List Nat) : List Int := ks.foldl (exch s n) (nums n)
theorem exchs_snoc (s : Int) (n : Nat) (ks : List Nat) (k : Nat) : exchs s n (ks ++ [k]) = exch s n (exchs s n ks) k := by simp [exchs]
theorem exchs_length (s : Int) (n : Nat) (ks : List Nat) : (exchs s n ks).length = n := by
  suffices h : ∀ (ks : List Nat) (l : List Int), l.length = n → (ks.foldl (exch s n) l).length = n from h ks _ (nums_length n)
  intro ks
  induction ks with
  | nil => exact fun l hl => hl
  | cons k r ih => exact fun l hl => ih _ (by rw [exch, swp_length, hl])
theorem shufTo_state_nxs (s : Int) (n i : Nat) : (shufTo s n i).1 = nxs s i := by
  induction i with
  | zero => rfl
  | succ i ih => rw [nxs_succ, ← ih]; rfl
theorem exchs_range (s : Int) (n i : Nat) : exchs s n (List.range i) = (shufTo s n i).2 := by
  induction i with
  | zero => rfl
  | succ i ih =>
    rw [List.range_succ, exchs_snoc, ih]
    show exch s n _ i = swp (shufTo s n i).2 i (place (nx (shufTo s n i).1) n i)
    rw [exch, nxs_succ, shufTo_state_nxs]
theorem exchs_shuf (s : Int) (n : Nat) : exchs s n (List.range (n - 1)) = shuf s n := exchs_range s n _

theorem shufR_len (s n : Int) : (shufR s n).1.length ≤ 200 := by
  unfold shufR; split
  · rename_i h; rw [shuf_length]; omega
  · simp
theorem sampR_len (s n k : Int) : (sampR s n k).1.length ≤ 200 := by
  unfold sampR; split
  · rename_i h; rw [List.length_take, shuf_length]; omega
  · simp
theorem statesR_len (s n : Int) : (statesR s n).1.length ≤ 200 := by
  unfold statesR; split
  · rename_i h; rw [statesTo_length]; omega
  · simp

end Go.Proofs.YtjnicmlomjppnaaGreatDoor.Pure31
/- Contracts: impl.isState, impl.stateBehind, impl.numberOf. -/
namespace Go.Proofs.YtjnicmlomjppnaaGreatDoor
open Go.RowKit Pure2 Pure30 Pure31

set_option maxHeartbeats 400000 in
theorem implIsState_any (s : Int) (w : World) :
    Calls Tryz.prog 33 #[.int .i64 s] w fun e w' => e = .returned (.bool (isState s)) ∧ w = w' := by
  by_cases h1 : 1 ≤ s
  · by_cases h2 : s < 2147483647
    all_goals
      go_enter Tryz.func33, Tryz.ntmps33
      go_wp2
      go_ret
      exact ⟨ret_bool' (by simp [isState]; omega), rfl⟩
  · go_enter Tryz.func33, Tryz.ntmps33
    go_wp2
    go_ret
    exact ⟨ret_bool' (by simp [isState]; omega), rfl⟩

/-- a product of a state and a number stays small -/
theorem prod_bd {s n : Int} (h : 0 ≤ s ∧ s ≤ 2147483646) (hn : 0 ≤ n ∧ n ≤ 1000000) : 0 ≤ s * n ∧ s * n ≤ 2147483646000000 := by
  refine ⟨Int.mul_nonneg h.1 hn.1, ?_⟩
  have := Int.mul_le_mul h.2 hn.2 hn.1 (by omega)
  omega

end Go.Proofs.YtjnicmlomjppnaaGreatDoor
/- Contracts: impl.nextStates makes a sequence, which yields the states behind a state, each with its index. -/
namespace Go.Proofs.YtjnicmlomjppnaaGreatDoor
open Go.RowKit Go.Shelf Pure2 Pure30 Pure31

/-- what is handed to a round: an index below N and the state behind it -/
abbrev encS (s : Int) {N : Nat} (k : Fin N) : Array Value := #[.int .i64 (k.1 : Nat), .int .i64 (nxs s (k.1 + 1))]

section
attribute [local go_sem] Oper.semAt_some

end

/-- a row of numbers of our own stays where what turns holds no cells -/
theorem row_own {W W' : World} {row : Option Nat} {b N : Nat} {T : TypeId} {f : Nat → Value} (h : W.rowIs b T N f) (hg : W.grownBy W' row) (hr : ∀ r, row = some r → ∃ o : Obj, W.heap[r]? = some o ∧ o.isCells = false) : W'.rowIs b T N f :=
  h.of_block (hg.block b h.lt (fun e => by
    obtain ⟨o, ho, hc⟩ := hr b e.symm
    obtain ⟨c, hb, _⟩ := h
    rw [hb] at ho; cases ho; cases hc))
theorem box_own {W W' : World} {row : Option Nat} {b : Nat} {T : TypeId} {v : Value} (h : Boxed W b T v) (hg : W.grownBy W' row) (hr : ∀ r, row = some r → ∃ o : Obj, W.heap[r]? = some o ∧ o.isCells = false) : Boxed W' b T v :=
  h.kept hg (fun e => by
    obtain ⟨o, ho, hc⟩ := hr b e.symm
    rw [show W.heap[b]? = _ from h] at ho; cases ho; cases hc)
theorem box_other {W : World} {b c i : Nat} {T : TypeId} {v : Value} (h : Boxed W b T v) (u : Value) (hne : b ≠ c) : Boxed (W.setCell ⟨c, i, none⟩ u) b T v :=
  (Below.heap_setCell W ⟨c, i, none⟩ u b hne).trans h
theorem row_putObj {W : World} {b N l : Nat} {T : TypeId} {f : Nat → Value} {o o' : Obj} (h : W.rowIs b T N f) (hl : W.heap[l]? = some o) (ho : o.isCells = false) : (W.putObj l o').rowIs b T N f :=
  row_own h (grownBy_putObj' W l o') (fun r e => by cases e; exact ⟨o, hl, ho⟩)
end Go.Proofs.YtjnicmlomjppnaaGreatDoor
/- Contracts: slices.Values makes a sequence that yields the numbers of a list; slices.Collect puts them into a list of its own. -/
namespace Go.Proofs.YtjnicmlomjppnaaGreatDoor
open Go.RowKit Go.Shelf Pure2 Pure30 Pure40 Pure83

/-- a number of the list -/
def valAt (zs : List Int) (i : Nat) : Int := zs.getD i 0
/-- what a round is handed: a number of the list -/
abbrev encV (zs : List Int) {N : Nat} (k : Fin N) : Array Value := #[.int .i64 (valAt zs k.1)]
/-- blocks below B stay -/
def KeepB (B : Nat) (W W' : World) : Prop := ∀ k, k < B → W'.heap[k]? = W.heap[k]?
theorem keepB_t {B : Nat} {X Y Z : World} (h : KeepB B X Y) (k : KeepB B Y Z) : KeepB B X Z := fun i hi => (k i hi).trans (h i hi)
theorem keepB_b {B : Nat} {w : World} (hB : B ≤ w.heap.size) (W : World) (l : Nat) (o o' : Obj) (hl : w.heap.size ≤ l) (_ : W.heap[l]? = some o) (_ : o.isCells = false) (_ : o.isWalk = false) : KeepB B W (W.putObj l o') :=
  fun k hk => World.putObj_heap_other (by omega)
theorem keepB_below {B : Nat} {W W' : World} (h : Below B W W') : KeepB B W W' := fun k hk => h.block k hk
theorem keepB_refl (B : Nat) (W : World) : KeepB B W W := fun _ _ => rfl
/-- a list that lay ahead is read where blocks below stay -/
theorem ints_keepB {w0 W : World} {a : Option Addr} {zs : List Int} (h : IntsAt w0 a zs) (hk : ∀ k, k < w0.heap.size → W.heap[k]? = w0.heap[k]?) : IntsAt W a zs := by
  rcases h with h | ⟨b, off, rfl, hc⟩
  · exact .inl h
  · exact .inr ⟨b, off, rfl, fun i x hx => (World.cell?_of_block (w := w0) (hk b (World.block_lt_of_cell? w0 _ (hc i x hx)))).trans (hc i x hx)⟩
/-- what is being built stays where what turns holds no cells -/
theorem build_own {B : Nat} {W W' : World} {row : Option Nat} {v : Value} {zs : List Int} (h : BuildI B W v zs) (hg : W.grownBy W' row) (hr : ∀ r, row = some r → ∃ o : Obj, W.heap[r]? = some o ∧ o.isCells = false) : BuildI B W' v zs := by
  refine h.kept hg fun k hk e => ?_
  obtain ⟨o, ho, hc⟩ := hr k e
  rcases h.2 with ⟨rfl, _⟩ | ⟨g, cap, cur, rfl, hB, hh, rest⟩
  · cases hk
  · cases hk; rw [hh] at ho; cases ho; cases hc
theorem range_vals {zs : List Int} {N : Nat} (hN : zs.length = N) {xs : List (Fin N)} (h : xs.map (·.1) = List.range N) : xs.map (fun k => valAt zs k.1) = zs := by
  have e : xs.map (fun k => valAt zs k.1) = (xs.map (·.1)).map fun i => valAt zs i := by rw [List.map_map]; rfl
  rw [e, h]
  subst hN
  refine List.ext_getElem (by simp) fun i h1 h2 => ?_
  simp [valAt, List.getElem?_eq_getElem h2]

section
attribute [local go_sem] Oper.semAt_some

set_option maxHeartbeats 1000000 in
theorem implValues_any (a : Option Addr) (len cap : Nat) (w : World) :
    Calls Tryz.prog 56 #[.slice a len cap] w fun e w' =>
      e = .returned (.func (.func 74) #[] #[.pointer (some ⟨w.heap.size, 0, none⟩)]) ∧ w' = w.alloc (.cells #[.slice a len cap] 24) := by
  go_enter Tryz.func56, Tryz.ntmps56
  go_wp2
  go_ret
  exact ⟨rfl, rfl⟩

set_option maxRecDepth 100000 in
set_option maxHeartbeats 2000000 in
/-- the sequence yields the list's numbers, in their order; it stops where a round says so -/
theorem implVals_stops (n : Nat) (hn : 1 ≤ n) (a : Option Addr) (len cap b1 : Nat) (zs : List Int) (w0 w : World) (hl : zs.length = len) (hm : len ≤ 1000000000) (hI : IntsAt w0 a zs) (hb0 : Below w0.heap.size w0 w) (hb1 : b1 < w.heap.size)
    (h1 : w.cell? ⟨b1, 0, none⟩ = some (.slice a len cap)) :
    SeqStopsK Fence.wide n Tryz.prog 74 #[.pointer (some ⟨b1, 0, none⟩)] (encV zs (N := len)) (KeepB w0.heap.size) (fun xs => xs.map (·.1) = List.range len) (fun _ => True) len w := fun l J Jx W hW hJ hJx hY h0 => by
  have c1 := (hW.cell (p := ⟨b1, 0, none⟩) hb1).trans h1
  have HY := Lib.hid hY
  have HL := Lib.hid hl
  have HI := Lib.hid hI
  have HK0 := Lib.hid (show ∀ k, k < w0.heap.size → W.heap[k]? = w0.heap[k]? from fun k hk => (hW.block k (Nat.lt_of_lt_of_le hk hb0.size)).trans (hb0.block k hk))
  clear hY hJ hJx hW h1 hl hI hb0
  refine callsIn_of_wp Tryz.func74 rfl trivial ?_ rfl
  simp only [Tryz.ntmps74, List.size_toArray, List.length_cons, List.length_nil, Nat.reduceAdd, Nat.reduceSub, Array.replicate_succ, Array.replicate_zero, List.push_toArray, List.append_toArray, List.nil_append, List.cons_append]
  gi_wp2
  gi_loopw [4, 7] (fun _ i wr => ∃ pre : List (Fin len), i = .int .i64 pre.length ∧ pre.length ≤ len ∧ pre.map (·.1) = List.range pre.length ∧ J pre wr ∧ ∀ k, k < w0.heap.size → wr.heap[k]? = w0.heap[k]?) (fun _ i _ => len - (intOf i).toNat)
  case atStart => exact ⟨[], rfl, Nat.zero_le _, rfl, h0, HK0.out⟩
  case round =>
    obtain ⟨pre, rfl, hlen, hpre, hJs, hk0⟩ := hrel
    have HP := Lib.hid hpre; have HK := Lib.hid hk0; clear hpre hk0 h0 HK0
    by_cases hlt : pre.length < len
    · obtain ⟨b, off, x, ha, hc, _, hx⟩ := (ints_keepB HI.out HK.out).at HL.out hlt
      subst ha
      obtain ⟨fn, tmps, assign, body, hy, hR⟩ := HY.out pre ⟨pre.length, hlt⟩ wr hJs hlt
      have hxe : valAt zs pre.length = x := by unfold valAt; rw [List.getD_eq_getElem?_getD, hx]; rfl
      dsimp only [encV] at hy
      rw [hxe] at hy
      clear hx hxe
      have HJ := Lib.hid hJs; clear hJs
      have HR := Lib.hid hR; clear hR
      gi_wp2
      refine HR.out.mono ?_
      rintro e W3 (⟨rfl, hJ3, hk3⟩ | ⟨rfl, hJx3⟩)
      · have HK3 := Lib.hid (show ∀ k, k < w0.heap.size → W3.heap[k]? = w0.heap[k]? from fun k hk => (hk3 k hk).trans (HK.out k hk)); clear hk3
        gi_wp2
        go_roundw
        case rel => exact ⟨pre ++ [⟨pre.length, hlt⟩], by rw [List.length_append]; go_num, by rw [List.length_append]; simp; omega, by rw [List.map_append, HP.out, List.length_append, List.length_singleton, List.range_succ]; rfl, hJ3, HK3.out⟩
        case measure => simp [intOf]; omega
      · gi_wp2
        refine bodyPost_ret (results_none rfl _ _ _) rfl ?_
        exact ⟨⟨_, rfl⟩, .inr ⟨_, trivial, hJx3⟩⟩
    · gi_wp2
      go_end0
      exact ⟨⟨_, rfl⟩, .inl ⟨pre, by rw [HP.out, show pre.length = len by omega], hJs⟩⟩

theorem wpListIn_int_append {F : Fence} {n : Nat} {ops : Array Oper} {rest : List Oper} {o : Oper} {a : Act} {Q : Exit → Act → World → Prop} {w : World} {B : Nat} (hgd : o.guard = none) (s x : Operand) (ho : o.op = .call { callee := .builtin .append, args := #[s, x], argTypes := #[24, 24] })
    (v : Value) (zs : List Int) (hs : a.eval s = v) (h : BuildI B w v zs) (b : Nat) (y : Int) (hx : a.eval x = .slice (some ⟨b, 0, none⟩) 1 1) (hc : w.cell? ⟨b, 0, none⟩ = some (.int .i64 y))
    (hl : zs.length ≤ 1000000000) (hB : B ≤ w.heap.size)
    (hk : ∀ v' w', BuildI B w' v' (zs ++ [y]) → w.grownBy w' v.ownBlock → wpListIn F n Tryz.prog ops Q rest (a.put o.dst v') w') : wpListIn F n Tryz.prog ops Q (o :: rest) a w := by
  obtain ⟨i0, hi, hz0, hz1, hz2⟩ := info_parts Tryz.info_i64
  refine wpListIn_append_own (P := Tryz.prog) w hgd s x 24 ho B 2 i0 (.int .i64 0) 1 8 Tryz.underlying24 hi hz0 hz1 hz2 rfl (by decide) v zs.length _ hs h ⟨b, 0, none⟩ 1 1 [.int .i64 y] hx rfl ?_ ?_ (by unfold maxLen; omega) (by omega) hB ?_
  · intro j u hu
    have hj := (List.getElem?_eq_some_iff.1 hu).1
    simp at hj; subst hj
    simp at hu; subst hu
    simpa [Addr.add] using hc
  · intro u hu; simp at hu; subst hu; rfl
  · intro v' w' h1 h2 _
    refine hk v' w' ?_ h2
    unfold BuildI
    rw [List.length_append, List.map_append]; exact h1

set_option maxRecDepth 100000 in
set_option maxHeartbeats 4000000 in
theorem implAppendSeq_any (a : Option Addr) (len cap b1 : Nat) (zs : List Int) (w0 w : World) (hl : zs.length = len) (hm : len ≤ 1000000000) (hI : IntsAt w0 a zs) (hb0 : Below w0.heap.size w0 w) (hb1 : b1 < w.heap.size) (h1 : w.cell? ⟨b1, 0, none⟩ = some (.slice a len cap)) :
    Calls Tryz.prog 94 #[.slice none 0 0, .func (.func 74) #[] #[.pointer (some ⟨b1, 0, none⟩)]] w (NewB zs w) := by
  refine (callsIn_wide (n := 6)).1 ?_
  refine callsIn_of_wp_marks Tryz.func94 rfl trivial ?_ rfl
  simp only [Tryz.ntmps94, List.size_toArray, List.length_cons, List.length_nil, Nat.reduceAdd, Nat.reduceSub, Array.replicate_succ, Array.replicate_zero, List.push_toArray, List.append_toArray, List.nil_append, List.cons_append]
  gi_wp2
  obtain ⟨W0, hW0⟩ : ∃ W0, w.alloc (.cells #[.slice none 0 0] 24) = W0 := ⟨_, rfl⟩
  have hsz : W0.heap.size = w.heap.size + 1 := by rw [← hW0]; simp
  have hB0 : Below w.heap.size w W0 := by rw [← hW0]; exact (Below.refl _ w).alloc (Nat.le_refl _) _
  have hv0 : Boxed W0 w.heap.size 24 (.slice none 0 0) := by rw [← hW0]; exact Boxed.new w 24 (.slice none 0 0)
  have hc1 : W0.cell? ⟨b1, 0, none⟩ = some (.slice a len cap) := (hB0.cell (p := ⟨b1, 0, none⟩) hb1).trans h1
  have hbb : Below w0.heap.size w0 W0 := hb0.trans (hB0.mono hb0.size)
  have hw0 : w0.heap.size ≤ w.heap.size := hb0.size
  rw [hW0]
  clear hW0 h1 hb0
  have HL := Lib.hid hl
  refine wpIn_rangeFunc_ownF rfl (by omega) (gf := 74) (lb := #[.pointer (some ⟨b1, 0, none⟩)]) rfl trivial (enters_of Tryz.func74 (by kernel_rfl) rfl)
    (implVals_stops _ (by omega) a len cap b1 zs w0 W0 hl hm hI hbb (by omega) hc1) keepB_t (keepB_b (show w0.heap.size ≤ W0.heap.size by omega)) (Below.refl _ _) (fun _ => rfl)
    (fun pre W => (∃ v, Boxed W w.heap.size 24 v ∧ BuildI (w.heap.size + 1) W v (pre.map fun k => valAt zs k.1)) ∧ Below w.heap.size w W)
    (fun _ _ _ => False)
    (OwnFrom.and (Own.from (fun pre A B row hh hg hr => hh.imp fun v hv => ⟨box_own hv.1 hg hr, build_own hv.2 hg hr⟩) _) (ownFrom_below (Nat.le_refl _) (by omega)))
    (fun _ _ _ _ _ hh _ _ => hh)
    ⟨⟨_, hv0, BuildI.nil _ _⟩, hB0⟩
    (fun x => _) (fun l x W K hK => by gi_wp2; exact hK) ?body ?done ?stop
  case body =>
    clear hv0 hB0 hc1 hbb hI hsz
    rintro l pre x W ⟨⟨v, hv, ho⟩, hB⟩ hpl
    have hx : x.1 < len := x.2
    have hvc := hv.cell
    have hvf := hv.frozen
    have hbw := hv.lt
    obtain ⟨y, hy⟩ : ∃ y, valAt zs x.1 = y := ⟨_, rfl⟩
    have hpm : (pre.map fun k => valAt zs k.1).length ≤ 1000000000 := by rw [List.length_map]; omega
    have HN := Lib.hid (show (pre ++ [x]).map (fun k => valAt zs k.1) = (pre.map fun k => valAt zs k.1) ++ [y] by rw [List.map_append, ← hy]; rfl)
    generalize (pre.map fun k => valAt zs k.1) = zp at HN ho hpm
    rw [hy]
    have hne : ∀ q, v.ownBlock = some q → w.heap.size + 1 ≤ q := fun q hq => (ho.lt q hq).1
    have HO := Lib.hid (ho.alloc (.cells #[.int .i64 y] 2)); have HV := Lib.hid hv; have HB := Lib.hid hB
    have hwW := hB.size
    clear ho hv hB hy
    obtain ⟨av, cv, rfl, _⟩ := HO.out.slice
    gi_wp2_with (gi_at_builtin; refine wpListIn_int_append (B := w.heap.size + 1) rfl _ _ rfl _ _ rfl HO.out _ y rfl (BuildI.lit1 _ _ _) hpm (by simp; omega) ?_)
    intro v' w3 h1 h2
    have hal := boxed W (.cells #[.int .i64 y] 2)
    have HV3 := Lib.hid ((HV.out.alloc (.cells #[.int .i64 y] 2)).kept h2 (fun e => by have := hne _ e.symm; omega))
    have hc3 := HV3.out.cell; have hf3 := HV3.out.frozen
    have HB3 := Lib.hid ((HB.out.alloc hwW (.cells #[.int .i64 y] 2)).grown h2 (by simp; omega) (fun q hq => by have := hne q hq; omega))
    have HK3 := Lib.hid (show KeepB w0.heap.size W w3 from fun k hk => (h2.block k (by simp; omega) (fun e => by have := hne k e.symm; omega)).trans (Below.heap_alloc _ _ k (by omega)))
    have HK4 := Lib.hid ((KeepsOthers.alloc W (.cells #[.int .i64 y] 2)).trans (KeepsOthers.of_grownBy h2 (fun j o hj ho' => by
      rcases HO.out.2 with ⟨e, _⟩ | ⟨g, cap', cur, e, _, hh, _⟩
      · rw [e] at hj; cases hj
      · rw [e] at hj; cases hj; rw [hh] at ho'; cases ho'; rfl)))
    have HO3 := Lib.hid h1
    have hs3 : w.heap.size < w3.heap.size := Nat.lt_of_lt_of_le (by simp; omega) h2.size
    clear h1 h2 hal hne
    obtain ⟨av3, cv3, rfl, _⟩ := HO3.out.slice
    gi_wp2
    exact ⟨HK4.out.trans (KeepsOthers.setCell _ _ _), keepB_t HK3.out (fun k hk => Below.heap_setCell _ _ _ _ (by show k ≠ _; simp; omega)), ⟨_, HV3.out.set _, by rw [HN.out]; have h5 := HO3.out.stored (x := ⟨w.heap.size, 0, none⟩) (Nat.lt_succ_self _) (.slice av3 (zp ++ [y]).length cv3); rw [List.length_append] at h5; exact h5⟩, HB3.out.setCell (Nat.le_refl _) _⟩
  case done =>
    rintro D xs W hD hS ⟨⟨v, hv, ho⟩, hB⟩ hK
    rw [range_vals HL.out hS] at ho
    have hvc := hv.cell
    have HO := Lib.hid (build_own ho (grownBy_putObj' W D (.deferred none)) (fun r e => by cases e; exact ⟨_, hK, rfl⟩))
    have HB := Lib.hid (hB.trans (belowK_b (w := w) (Nat.le_refl _) W D _ (.deferred none) (by omega) hK rfl rfl)); clear ho hv hB
    obtain ⟨av, cv, rfl, _⟩ := HO.out.slice
    gi_wp2
    refine ⟨by simp, .inl ⟨_, _, rfl, run_takeDeferred hK, ?_⟩⟩
    refine ⟨_, results_tmp rfl _ _ _, ?_⟩
    refine ⟨.slice av len cv, rfl, ?_, HB.out⟩
    rw [← HL.out]
    exact HO.out.base (Nat.le_succ _)
  case stop =>
    rintro D c pre W _ _ h _
    exact h.elim

set_option maxHeartbeats 1000000 in
theorem implCollect_any (a : Option Addr) (len cap b1 : Nat) (zs : List Int) (w0 w : World) (hl : zs.length = len) (hm : len ≤ 1000000000) (hI : IntsAt w0 a zs) (hb0 : Below w0.heap.size w0 w) (hb1 : b1 < w.heap.size) (h1 : w.cell? ⟨b1, 0, none⟩ = some (.slice a len cap)) :
    Calls Tryz.prog 72 #[.func (.func 74) #[] #[.pointer (some ⟨b1, 0, none⟩)]] w (NewB zs w) := by
  have HC := Lib.hid (implAppendSeq_any a len cap b1 zs w0 w hl hm hI hb0 hb1 h1)
  clear hl hI hb0 h1
  go_enter Tryz.func72, Tryz.ntmps72
  go_wp2_with fail
  refine HC.out.mono ?_; rintro e w1 ⟨v, rfl, ho, hB⟩
  have HO := Lib.hid ho; have HB := Lib.hid hB; clear ho hB
  go_wp2_with fail
  go_ret
  exact ⟨_, rfl, HO.out, HB.out⟩
end
end Go.Proofs.YtjnicmlomjppnaaGreatDoor
