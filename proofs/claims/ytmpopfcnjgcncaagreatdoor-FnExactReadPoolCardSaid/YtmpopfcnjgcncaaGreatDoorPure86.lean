/- Plain facts on the texts of pools: what ReadPool answers. No program is imported here. -/
import Derived.Test.YtmpopfcnjgcncaaGreatDoorBase0
import Derived.Test.YtmpopfcnjgcncaaGreatDoorRoundL
namespace Go.Proofs.YtmpopfcnjgcncaaGreatDoor.Pure86
open Go.RowKit Pure1 Pure2 Pure3 Pure4 Pure5 Pure7 Pure8 Pure30 Pure42 Pure60
open Pure80 hiding zeroP

/-- a pool's text between its slashes -/
def fieldsQ (p : PoolV) : List ByteArray := [listT p.nums, listT p.drawn, decB p.state]
theorem pool_errs {p : PoolV} (h : isPool p = true) : listErr p.nums = 0 ∧ listErr p.drawn = 0 := by
  have hr := pool_range h
  have hn := pool_len h; have hd := pool_dlen h
  exact ⟨listErr_zero (List.all_eq_true.2 fun x hx => (isVal_iff x).2 (by have := hr x hx; omega)) hn, listErr_zero (List.all_eq_true.2 fun x hx => (isVal_iff x).2 (by have := hr x (pool_sub h x hx); omega)) (by omega)⟩
theorem list_read {zs : List Int} (h : listErr zs = 0) : readList (listT zs) = (zs, 0) := by
  obtain ⟨t, bad, he, hh⟩ := lists_there zs
  rw [listText, if_pos h] at he
  injection he with h1 h2
  subst h1 h2
  rcases hh with ⟨_, h3, _⟩ | h3 | h3
  · exact h3
  · exact absurd h3 (by decide)
  · exact absurd h3 (by decide)
theorem read_list {s : ByteArray} {ys : List Int} (h : readList s = (ys, 0)) : listT ys = s := by
  obtain ⟨zs, one, he, hh⟩ := lists_back s
  rw [h] at he
  injection he with h1 h2
  subst h1 h2
  rcases hh with ⟨_, h3, _⟩ | ⟨h3, _⟩
  · unfold listText at h3
    split at h3
    · injection h3
    · rename_i hn
      injection h3 with _ h4
      exact absurd h4 hn
  · exact absurd h3 (by decide)
theorem fieldsQ_inj {p q : PoolV} (hp : isPool p = true) (hq : isPool q = true) (h : fieldsQ p = fieldsQ q) : p = q := by
  simp only [fieldsQ, List.cons.injEq, and_true] at h
  obtain ⟨h0, h1, h2⟩ := h
  have e0 := list_read (pool_errs hp).1; rw [h0, list_read (pool_errs hq).1] at e0
  have e1 := list_read (pool_errs hp).2; rw [h1, list_read (pool_errs hq).2] at e1
  have sp := pool_state hp; have sq := pool_state hq
  have e2 := decB_inj (by omega) (by omega) (by omega) (by omega) h2
  obtain ⟨a, b, c⟩ := p
  obtain ⟨a', b', c'⟩ := q
  have e0' := congrArg Prod.fst e0
  have e1' := congrArg Prod.fst e1
  simp only at e0' e1' e2
  subst e0' e1' e2
  rfl
open Classical in
/-- ReadPool's answer -/
noncomputable def readQ (s : ByteArray) : PoolV × Int := if h : ∃ p : PoolV, isPool p = true ∧ partsS s = fieldsQ p then (Classical.choose h, 0) else (Pure80.zeroP, 6)
theorem readQ_yes {s : ByteArray} {p : PoolV} (hp : isPool p = true) (h : partsS s = fieldsQ p) : readQ s = (p, 0) := by
  have hx : ∃ p : PoolV, isPool p = true ∧ partsS s = fieldsQ p := ⟨p, hp, h⟩
  unfold readQ
  rw [dif_pos hx]
  obtain ⟨h1, h2⟩ := Classical.choose_spec hx
  rw [fieldsQ_inj h1 hp (h2.symm.trans h)]
theorem readQ_no {s : ByteArray} (h : ∀ p : PoolV, isPool p = true → partsS s ≠ fieldsQ p) : readQ s = (Pure80.zeroP, 6) := by
  unfold readQ
  rw [dif_neg (fun ⟨p, hp, he⟩ => h p hp he)]
theorem readQ_cases (s : ByteArray) : (∃ p, isPool p = true ∧ partsS s = fieldsQ p ∧ readQ s = (p, 0)) ∨ readQ s = (Pure80.zeroP, 6) := by
  by_cases h : ∃ p : PoolV, isPool p = true ∧ partsS s = fieldsQ p
  · obtain ⟨p, hp, he⟩ := h
    exact .inl ⟨p, hp, he, readQ_yes hp he⟩
  · exact .inr (readQ_no (fun p hp he => h ⟨p, hp, he⟩))
theorem readQ_len {s : ByteArray} (h : (partsS s).length ≠ 3) : readQ s = (Pure80.zeroP, 6) := readQ_no fun p _ e => h (by rw [e]; rfl)
/-- three parts: what came of each decides -/
theorem readQ_good {s a b c : ByteArray} (h : partsS s = [a, b, c]) {zs ds : List Int} {st : Int} (ha : readList a = (zs, 0)) (hb : readList b = (ds, 0)) (hc : decB st = c) (hp : isPool ⟨zs, ds, st⟩ = true) : readQ s = (⟨zs, ds, st⟩, 0) :=
  readQ_yes hp (by rw [h, fieldsQ, read_list ha, read_list hb, hc])
theorem readQ_first {s a b c : ByteArray} (h : partsS s = [a, b, c]) (ha : (readList a).2 ≠ 0) : readQ s = (Pure80.zeroP, 6) := readQ_no fun p hp e => by
  rw [h, fieldsQ] at e
  injection e with e0 _
  rw [e0, list_read (pool_errs hp).1] at ha; exact ha rfl
theorem readQ_second {s a b c : ByteArray} (h : partsS s = [a, b, c]) (ha : (readList b).2 ≠ 0) : readQ s = (Pure80.zeroP, 6) := readQ_no fun p hp e => by
  rw [h, fieldsQ] at e
  injection e with _ e0
  injection e0 with e0 _
  rw [e0, list_read (pool_errs hp).2] at ha; exact ha rfl
theorem readQ_third {s a b c : ByteArray} (h : partsS s = [a, b, c]) {lo hi n : Int} (hlo : lo ≤ 1) (hhi : 2147483646 ≤ hi) (hc : NumRead c lo hi n false) : readQ s = (Pure80.zeroP, 6) := readQ_no fun p hp e => by
  rw [h, fieldsQ] at e
  injection e with _ e0
  injection e0 with _ e0
  injection e0 with e0 _
  have sp := pool_state hp
  exact hc.2 rfl p.state (by omega) (by omega) e0.symm
theorem readQ_fourth {s a b c : ByteArray} (h : partsS s = [a, b, c]) {zs ds : List Int} {st : Int} (ha : readList a = (zs, 0)) (hb : readList b = (ds, 0)) (hc : decB st = c) (hst : -9223372036854775808 ≤ st ∧ st ≤ 9223372036854775807) (hp : isPool ⟨zs, ds, st⟩ = false) : readQ s = (Pure80.zeroP, 6) := readQ_no fun p hp' e => by
  rw [h, fieldsQ] at e
  injection e with e0 e
  injection e with e1 e
  injection e with e2 _
  rw [e0, list_read (pool_errs hp').1] at ha
  rw [e1, list_read (pool_errs hp').2] at hb
  have sp := pool_state hp'
  have e3 := decB_inj hst.1 hst.2 (by omega) (by omega) (hc.trans e2)
  have ha' := congrArg Prod.fst ha; have hb' := congrArg Prod.fst hb
  simp only at ha' hb'
  subst ha' hb' e3
  rw [hp'] at hp; cases hp
theorem readQ_small (s : ByteArray) : (readQ s).1.nums.length ≤ 60 ∧ (readQ s).1.drawn.length ≤ 60 := by
  rcases readQ_cases s with ⟨p, hp, _, hr⟩ | hr
  · rw [hr]; have := pool_len hp; have := pool_dlen hp; exact ⟨by assumption, by show p.drawn.length ≤ 60; omega⟩
  · rw [hr]; exact ⟨Nat.zero_le _, Nat.zero_le _⟩
end Go.Proofs.YtmpopfcnjgcncaaGreatDoor.Pure86
