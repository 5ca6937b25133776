/- Plain facts: a person is recovered from their text. No program is imported here. -/
import Derived.Test.YtgjhpeofcbdaaaaDoorPure42
import Derived.Test.YtgjhpeofcbdaaaaDoorRoundL
namespace Go.Proofs.YtgjhpeofcbdaaaaDoor.Pure42
open Go.RowKit Pure1 Pure3 Pure4 Pure5 Pure7 Pure8 Pure40 Pure41

theorem letters_no {s : ByteArray} (h : isWordL s.data.toList = true) : (47 : UInt8) ∉ s.data.toList := by
  intro hm
  have hall : s.data.toList.all letter = true := by
    cases e : s.data.toList.all letter
    · rw [isWordL_of_not_all e] at h; cases h
    · rfl
  have := List.all_eq_true.1 hall 47 hm
  revert this; decide
theorem dec_no {m : Int} (h : 0 ≤ m) : (47 : UInt8) ∉ (decB m).data.toList := by
  rw [decB_toList h]
  intro hm
  have := (dec_spec m.toNat).1 47 hm
  revert this; unfold digit; decide
theorem parts_fields {p : Pers} (h : isPers p = true) : partsS (textP p) = fields p := by
  have h' := h
  simp only [isPers, Bool.and_eq_true, inR_iff] at h'
  obtain ⟨⟨a1, a2⟩, w1, w2, ⟨b1, b2⟩, z1, z2⟩ := h'
  rw [← join_fields]
  unfold partsS
  show (spl 47 [] (Lib.join ((fields p).map (·.data.toList)) [47])).map _ = fields p
  rw [spl_join 47 _ (by simp [fields]) (by
    intro x hx
    obtain ⟨y, hy, rfl⟩ := List.mem_map.1 hx
    simp only [fields, List.mem_cons, List.not_mem_nil, or_false] at hy
    rcases hy with rfl | rfl | rfl | rfl | rfl
    · exact dec_no (by omega)
    · exact letters_no w1
    · exact letters_no w2
    · exact dec_no (by omega)
    · exact dec_no (by omega)), List.map_map]
  rw [show ((fun l : List UInt8 => (⟨l.toArray⟩ : ByteArray)) ∘ fun x : ByteArray => x.data.toList) = id from funext fun l => mk_toList l, List.map_id]
theorem text_fields {s : ByteArray} {p : Pers} (h : partsS s = fields p) : textP p = s := by
  rw [← join_fields, ← h]
  unfold partsS
  rw [List.map_map, show ((fun x : ByteArray => x.data.toList) ∘ fun l : List UInt8 => (⟨l.toArray⟩ : ByteArray)) = id from funext fun l => by simp, List.map_id]
  show (⟨(Lib.join (spl 47 [] s.data.toList) [47]).toArray⟩ : ByteArray) = s
  rw [join_spl, List.nil_append, mk_toList]
theorem read_text {p : Pers} (h : isPers p = true) : readR (textP p) = (p, 0) := readR_yes h (parts_fields h)
theorem text_read {s : ByteArray} {p : Pers} (h : readR s = (p, 0)) : textOfP p = (s, 0) := by
  rcases readR_cases s with ⟨q, hq, he, hr⟩ | hr
  · rw [hr] at h
    obtain rfl : q = p := congrArg Prod.fst h
    rw [textOfP, if_pos hq, text_fields he]
  · rw [hr] at h
    have := congrArg Prod.snd h
    simp at this
theorem read_code (s : ByteArray) : (readR s).2 = 0 ∨ (readR s).2 = 6 := by
  rcases readR_cases s with ⟨q, _, _, hr⟩ | hr
  · exact .inl (by rw [hr])
  · exact .inr (by rw [hr])

end Go.Proofs.YtgjhpeofcbdaaaaDoor.Pure42
