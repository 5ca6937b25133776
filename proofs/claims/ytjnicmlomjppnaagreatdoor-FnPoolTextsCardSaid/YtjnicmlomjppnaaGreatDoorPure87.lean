/- Plain facts: a pool is recovered from its text. -/
import Derived.Test.YtjnicmlomjppnaaGreatDoorBase0
import Derived.Test.YtjnicmlomjppnaaGreatDoorText8
namespace Go.Proofs.YtjnicmlomjppnaaGreatDoor
open Go.RowKit Pure1 Pure2 Pure3 Pure4 Pure5 Pure7 Pure8 Pure30 Pure42 Pure60 Pure80 Pure86

theorem dec_no47 {m : Int} (h : 0 ≤ m) : (47 : UInt8) ∉ (decB m).data.toList := by
  rw [decB_toList h]
  intro hm
  have := (dec_spec m.toNat).1 47 hm
  revert this; unfold digit; decide
theorem join_no (c d : UInt8) (hd : d ≠ c) : ∀ xs : List (List UInt8), (∀ x ∈ xs, c ∉ x) → c ∉ Lib.join xs [d]
  | [], _ => by simp [Lib.join]
  | [x], h => by simpa [Lib.join] using h x (by simp)
  | x :: y :: r, h => by
    rw [join_two]
    intro hm
    rcases List.mem_append.1 hm with hm | hm
    · exact h x (by simp) hm
    · rcases List.mem_append.1 hm with hm | hm
      · exact hd (List.mem_singleton.1 hm).symm
      · exact join_no c d hd (y :: r) (fun z hz => h z (by simp at hz ⊢; exact .inr hz)) hm
theorem list_no47 {zs : List Int} (h : ∀ x ∈ zs, 0 ≤ x) : (47 : UInt8) ∉ (listT zs).data.toList := by
  by_cases h0 : zs = []
  · subst h0; decide
  · rw [listT, wordsT, if_neg (by simpa using h0)]
    show (47 : UInt8) ∉ (Lib.join ((zs.map decB).map (·.data.toList)) [44])
    refine join_no 47 44 (by decide) _ fun x hx => ?_
    obtain ⟨y, hy, rfl⟩ := List.mem_map.1 hx
    obtain ⟨n, hn, rfl⟩ := List.mem_map.1 hy
    exact dec_no47 (h n hn)
theorem join_fieldsQ (p : PoolV) : (⟨(Lib.join ((fieldsQ p).map (·.data.toList)) slash.data.toList).toArray⟩ : ByteArray) = textQ p := join_three _ _ _
theorem parts_textQ {p : PoolV} (h : isPool p = true) : partsS (textQ p) = fieldsQ p := by
  have hr := pool_range h
  have hst := pool_state h
  rw [← join_fieldsQ]
  unfold partsS
  show (spl 47 [] (Lib.join ((fieldsQ p).map (·.data.toList)) [47])).map _ = fieldsQ p
  rw [spl_join 47 _ (by simp [fieldsQ]) (by
    intro x hx
    obtain ⟨y, hy, rfl⟩ := List.mem_map.1 hx
    simp only [fieldsQ, List.mem_cons, List.not_mem_nil, or_false] at hy
    rcases hy with rfl | rfl | rfl
    · exact list_no47 fun x hx => by have := hr x hx; omega
    · exact list_no47 fun x hx => by have := hr x (pool_sub h x hx); omega
    · exact dec_no47 (by omega)), List.map_map]
  rw [show ((fun l : List UInt8 => (⟨l.toArray⟩ : ByteArray)) ∘ fun x : ByteArray => x.data.toList) = id from funext fun l => mk_toList l, List.map_id]
theorem text_partsQ {s : ByteArray} {p : PoolV} (h : partsS s = fieldsQ p) : textQ p = s := by
  rw [← join_fieldsQ, ← h]
  unfold partsS
  rw [List.map_map, show ((fun x : ByteArray => x.data.toList) ∘ fun l : List UInt8 => (⟨l.toArray⟩ : ByteArray)) = id from funext fun l => by simp, List.map_id]
  show (⟨(Lib.join (spl 47 [] s.data.toList) [47]).toArray⟩ : ByteArray) = s
  rw [join_spl, List.nil_append, mk_toList]
theorem listT_small {zs : List Int} (h : zs.all isVal = true) (hl : zs.length ≤ 60) : (listT zs).size ≤ 1320 := by
  by_cases h0 : zs = []
  · subst h0; decide
  · rw [listT, wordsT, if_neg (by simpa using h0)]
    have h1 := joinB_size (zs.map decB) comma
    have h2 := numTexts_size zs h
    rw [List.length_map] at h1
    have h3 : comma.size = 1 := rfl
    rw [h3] at h1
    omega
theorem textQ_small {p : PoolV} (h : isPool p = true) : (textQ p).size ≤ 2700 := by
  obtain ⟨h1, h2⟩ := pool_vals h
  have hn := pool_len h; have hd := pool_dlen h; have hst := pool_state h
  have h3 := listT_small h1 hn
  have h4 := listT_small h2 (by omega)
  have h5 := decB_size (n := p.state) (by omega) (by omega)
  have h6 : slash.size = 1 := rfl
  unfold textQ
  simp only [ByteArray.size_append, h6]
  omega
/-- a pool's text: what it says when read again -/
theorem pool_there (p : PoolV) : ∃ t bad, textOfQ p = (t, bad) ∧ isPool p = (bad == 0) ∧ ((bad = 0 ∧ readQ t = (p, 0) ∧ t.size ≤ 2700) ∨ bad = 1) := by
  unfold textOfQ
  cases h : isPool p
  · exact ⟨_, _, rfl, rfl, .inr rfl⟩
  · exact ⟨_, _, rfl, rfl, .inl ⟨rfl, readQ_yes h (parts_textQ h), textQ_small h⟩⟩
/-- a text that was read: what is written again -/
theorem pool_back (s : ByteArray) : ∃ y one, readQ s = (y, one) ∧ y.nums.length ≤ 60 ∧ y.drawn.length ≤ 60 ∧ ((one = 0 ∧ textOfQ y = (s, 0)) ∨ one = 6) := by
  have hs := readQ_small s
  rcases readQ_cases s with ⟨p, hp, he, hr⟩ | hr
  · rw [hr] at hs ⊢
    exact ⟨p, 0, rfl, hs.1, hs.2, .inl ⟨rfl, by rw [textOfQ, if_pos hp, text_partsQ he]⟩⟩
  · rw [hr] at hs ⊢
    exact ⟨_, _, rfl, hs.1, hs.2, .inr rfl⟩
end Go.Proofs.YtjnicmlomjppnaaGreatDoor
