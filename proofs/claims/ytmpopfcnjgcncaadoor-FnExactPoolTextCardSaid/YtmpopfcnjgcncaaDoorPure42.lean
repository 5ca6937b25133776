/- Plain facts on a person's text (chapter 4): its parts between slashes. No program is imported here. -/
import Derived.Test.YtmpopfcnjgcncaaDoorPure5
import Derived.Test.YtmpopfcnjgcncaaDoorPure7
import Derived.Test.YtmpopfcnjgcncaaDoorPure41
namespace Go.Proofs.YtmpopfcnjgcncaaDoor.Pure42
open Go.RowKit Pure1 Pure3 Pure4 Pure5 Pure7 Pure40 Pure41

def slash : ByteArray := ⟨#[47]⟩
/-- the pieces of a text between slashes -/
def partsS (s : ByteArray) : List ByteArray := (spl 47 [] s.data.toList).map fun l => ⟨l.toArray⟩
/-- the state of the loop that splits: what is done, and what still comes -/
def MidS (s : ByteArray) (done : List ByteArray) (frm i : Nat) : Prop :=
  frm ≤ i ∧ i ≤ s.size ∧ done ++ (spl 47 ((s.data.toList.drop frm).take (i - frm)) (s.data.toList.drop i)).map (fun l => (⟨l.toArray⟩ : ByteArray)) = partsS s
theorem splitB_partsS (s : ByteArray) : Lib.splitB slash 0 (Lib.countB s slash) s = partsS s := by
  apply toList_inj
  rw [Lib.splitB_data]
  show Lib.splitK [47] 0 (Lib.count s.data.toList [47]) s.data.toList = _
  rw [splitK_spl]
  simp [partsS, List.map_map, Function.comp_def]
theorem partsS_length (s : ByteArray) : (partsS s).length = Lib.countB s slash + 1 := by
  rw [← splitB_partsS]; exact Lib.splitB_all slash (by decide) 0 _ s rfl

theorem MidS.start (s : ByteArray) : MidS s [] 0 0 := ⟨Nat.le_refl _, Nat.zero_le _, by simp [partsS]⟩
theorem MidS.slash {s : ByteArray} {done : List ByteArray} {frm i : Nat} (h : MidS s done frm i) (hi : i < s.size) (hc : s[i] = 47) : MidS s (done ++ [s.extract frm i]) (i + 1) (i + 1) := by
  obtain ⟨h1, h2, h3⟩ := h
  refine ⟨Nat.le_refl _, by omega, ?_⟩
  rw [← h3, drop_cons s i hi, spl, if_pos hc, Nat.sub_self, List.take_zero, List.map_cons, extract_mk]
  simp
theorem MidS.other {s : ByteArray} {done : List ByteArray} {frm i : Nat} (h : MidS s done frm i) (hi : i < s.size) (hc : s[i] ≠ 47) : MidS s done frm (i + 1) := by
  obtain ⟨h1, h2, h3⟩ := h
  refine ⟨by omega, by omega, ?_⟩
  have e : i + 1 - frm = (i - frm) + 1 := by omega
  have hx : (s.data.toList.drop frm)[i - frm]? = some s[i] := by
    rw [List.getElem?_drop, show frm + (i - frm) = i by omega, List.getElem?_eq_getElem (by simpa using hi)]; rfl
  rw [← h3, drop_cons s i hi, spl, if_neg hc, e, List.take_add_one, hx]
  rfl
theorem MidS.last {s : ByteArray} {done : List ByteArray} {frm : Nat} (h : MidS s done frm s.size) : done ++ [s.extract frm s.size] = partsS s := by
  obtain ⟨h1, h2, h3⟩ := h
  rw [← h3, List.drop_eq_nil_of_le (by simp : s.data.toList.length ≤ s.size), spl, List.map_singleton, extract_mk]

theorem partsS_len_le (s : ByteArray) : (partsS s).length ≤ s.size + 1 := by
  rw [partsS, List.length_map]; have := spl_len 47 s.data.toList []; rw [Pure1.size_eq] at this; exact this
theorem MidS.len {s : ByteArray} {done : List ByteArray} {frm i : Nat} (h : MidS s done frm i) : done.length ≤ s.size := by
  obtain ⟨h1, h2, h3⟩ := h
  have e := congrArg List.length h3
  rw [List.length_append, List.length_map] at e
  have := spl_ne 47 (s.data.toList.drop i) ((s.data.toList.drop frm).take (i - frm))
  have := partsS_len_le s
  omega
theorem partsS_sizes (s : ByteArray) : ∀ x ∈ partsS s, x.size ≤ s.size := by
  intro x hx
  simp only [partsS, List.mem_map] at hx
  obtain ⟨l, hl, rfl⟩ := hx
  have := spl_sizes 47 _ _ l hl
  show l.toArray.size ≤ _
  rw [List.size_toArray]; simpa using this


/-- a person's text -/
def textP (p : Pers) : ByteArray := decB p.num ++ slash ++ p.fst ++ slash ++ p.lst ++ slash ++ decB p.born ++ slash ++ decB p.zone
/-- the pieces of a person's text -/
def fields (p : Pers) : List ByteArray := [decB p.num, p.fst, p.lst, decB p.born, decB p.zone]
theorem join_fields (p : Pers) : (⟨(Lib.join ((fields p).map (·.data.toList)) slash.data.toList).toArray⟩ : ByteArray) = textP p := by
  rw [← mk_toList (textP p)]
  congr 1
  simp [fields, textP, Lib.join, slash, ByteArray.data_append]
/-- PersonText's answer -/
def textOfP (p : Pers) : ByteArray × Int := if isPers p = true then (textP p, 0) else (⟨#[]⟩, 1)
def zeroP : Pers := ⟨0, ⟨#[]⟩, ⟨#[]⟩, 0, 0⟩
open Classical in
/-- ReadPerson's answer -/
noncomputable def readR (s : ByteArray) : Pers × Int := if h : ∃ p : Pers, isPers p = true ∧ partsS s = fields p then (Classical.choose h, 0) else (zeroP, 6)
theorem fields_inj {p q : Pers} (hp : isPers p = true) (hq : isPers q = true) (h : fields p = fields q) : p = q := by
  obtain ⟨⟨a1, a2⟩, _, _, ⟨b1, b2⟩, z1, z2⟩ := isPers_parts hp
  obtain ⟨⟨a1', a2'⟩, _, _, ⟨b1', b2'⟩, z1', z2'⟩ := isPers_parts hq
  simp only [fields, List.cons.injEq, and_true] at h
  obtain ⟨h0, h1, h2, h3, h4⟩ := h
  have e0 := decB_inj (by omega) (by omega) (by omega) (by omega) h0
  have e3 := decB_inj (by omega) (by omega) (by omega) (by omega) h3
  have e4 := decB_inj (by omega) (by omega) (by omega) (by omega) h4
  obtain ⟨n, f, l, b, z⟩ := p
  obtain ⟨n', f', l', b', z'⟩ := q
  simp only at e0 h1 h2 e3 e4
  subst e0 h1 h2 e3 e4
  rfl
theorem readR_yes {s : ByteArray} {p : Pers} (hp : isPers p = true) (h : partsS s = fields p) : readR s = (p, 0) := by
  have hx : ∃ p : Pers, isPers p = true ∧ partsS s = fields p := ⟨p, hp, h⟩
  unfold readR
  rw [dif_pos hx]
  obtain ⟨h1, h2⟩ := Classical.choose_spec hx
  rw [fields_inj h1 hp (h2.symm.trans h)]
theorem readR_no {s : ByteArray} (h : ∀ p : Pers, isPers p = true → partsS s ≠ fields p) : readR s = (zeroP, 6) := by
  unfold readR
  rw [dif_neg (fun ⟨p, hp, he⟩ => h p hp he)]
theorem readR_cases (s : ByteArray) : (∃ p, isPers p = true ∧ partsS s = fields p ∧ readR s = (p, 0)) ∨ readR s = (zeroP, 6) := by
  by_cases h : ∃ p : Pers, isPers p = true ∧ partsS s = fields p
  · obtain ⟨p, hp, he⟩ := h
    exact .inl ⟨p, hp, he, readR_yes hp he⟩
  · exact .inr (readR_no (fun p hp he => h ⟨p, hp, he⟩))

end Go.Proofs.YtmpopfcnjgcncaaDoor.Pure42
