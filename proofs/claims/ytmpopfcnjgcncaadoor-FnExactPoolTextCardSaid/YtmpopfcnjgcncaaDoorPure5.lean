/- Plain facts on splitting a text at commas. No program is imported here. -/
import Derived.Test.YtmpopfcnjgcncaaDoorPure3
import Derived.Lib.SplitLaws
import Derived.Lib.Split
import Derived.Deep.OwnRows
namespace Go.Proofs.YtmpopfcnjgcncaaDoor.Pure5
open Go.RowKit Pure1 Pure3

/-- the pieces of a text between the bytes c; acc: what stands ahead of the text in its first piece -/
def spl (c : UInt8) (acc : List UInt8) : List UInt8 → List (List UInt8)
  | [] => [acc]
  | x :: r => if x = c then acc :: spl c [] r else spl c (acc ++ [x]) r
def pre (p : List UInt8) : List (List UInt8) → List (List UInt8)
  | [] => [p]
  | h :: t => (p ++ h) :: t
theorem spl_pre (c : UInt8) : ∀ (l acc : List UInt8), spl c acc l = pre acc (spl c [] l)
  | [], acc => by simp [spl, pre]
  | x :: r, acc => by
    by_cases h : x = c
    · simp [spl, h, pre]
    · simp only [spl, if_neg h, List.nil_append]
      rw [spl_pre c r (acc ++ [x]), spl_pre c r [x]]
      cases spl c [] r with
      | nil => simp [pre]
      | cons y t => simp [pre]
theorem spl_cons_ne {c x : UInt8} (h : x ≠ c) (r : List UInt8) : spl c [] (x :: r) = pre [x] (spl c [] r) := by
  rw [spl, if_neg h, List.nil_append, spl_pre]
theorem splitK_spl (c : UInt8) : ∀ l : List UInt8, Lib.splitK [c] 0 (Lib.count l [c]) l = spl c [] l
  | [] => by rw [Lib.count_one]; rfl
  | x :: r => by
    have ih := splitK_spl c r
    by_cases h : x = c
    · subst h
      have hix : Lib.index (x :: r) [x] = 0 := by rw [Lib.index]; simp [List.isPrefixOf]
      rw [Lib.count_cons_eq, Nat.add_comm, Lib.splitK, hix, spl, if_pos rfl, ← ih]
      rfl
    · rw [Lib.count_cons_ne x c r h, spl_cons_ne h, ← ih]
      have hp : ([c] : List UInt8).isPrefixOf (x :: r) = false := by simp [List.isPrefixOf, Ne.symm h]
      have hix : Lib.index (x :: r) [c] = if Lib.index r [c] == -1 then -1 else Lib.index r [c] + 1 := by rw [Lib.index, hp]; simp
      cases hk : Lib.count r [c] with
      | zero => simp [Lib.splitK, pre]
      | succ k =>
        by_cases hm : Lib.index r [c] = -1
        · have := Lib.count_miss hm; omega
        · have hge := Lib.index_ge r [c]
          obtain ⟨j, hj⟩ : ∃ j : Nat, Lib.index r [c] = j := ⟨(Lib.index r [c]).toNat, by omega⟩
          have hix' : Lib.index (x :: r) [c] = ((j + 1 : Nat) : Int) := by rw [hix, if_neg (fun e => hm (beq_iff_eq.1 e)), hj]; omega
          have n1 : ¬ ((((j + 1 : Nat) : Int) == -1) = true) := fun e => by have := beq_iff_eq.1 e; omega
          have n2 : ¬ (((j : Int) == -1) = true) := fun e => by have := beq_iff_eq.1 e; omega
          rw [Lib.splitK, Lib.splitK, hix', hj, if_neg n1, if_neg n2]
          simp [pre]

/-- the pieces of a text between commas -/
def parts (s : ByteArray) : List ByteArray := (spl 44 [] s.data.toList).map fun l => ⟨l.toArray⟩
theorem toList_inj {a b : List ByteArray} (h : a.map (·.data.toList) = b.map (·.data.toList)) : a = b := by
  induction a generalizing b with
  | nil => cases b with
    | nil => rfl
    | cons y t => simp at h
  | cons x r ih => cases b with
    | nil => simp at h
    | cons y t =>
      simp only [List.map_cons, List.cons.injEq] at h
      rw [ih h.2, ← mk_toList x, h.1, mk_toList]
theorem splitB_parts (s : ByteArray) : Lib.splitB comma 0 (Lib.countB s comma) s = parts s := by
  apply toList_inj
  rw [Lib.splitB_data]
  show Lib.splitK [44] 0 (Lib.count s.data.toList [44]) s.data.toList = _
  rw [splitK_spl]
  simp [parts, List.map_map, Function.comp_def]
theorem parts_length (s : ByteArray) : (parts s).length = Lib.countB s comma + 1 := by
  rw [← splitB_parts]; exact Lib.splitB_all comma (by decide) 0 _ s rfl

/-- the state of the loop that splits: what is done, and what still comes -/
def Mid (s : ByteArray) (done : List ByteArray) (frm i : Nat) : Prop :=
  frm ≤ i ∧ i ≤ s.size ∧ done ++ (spl 44 ((s.data.toList.drop frm).take (i - frm)) (s.data.toList.drop i)).map (fun l => (⟨l.toArray⟩ : ByteArray)) = parts s
theorem Mid.start (s : ByteArray) : Mid s [] 0 0 := ⟨Nat.le_refl _, Nat.zero_le _, by simp [parts]⟩
theorem drop_cons (s : ByteArray) (i : Nat) (h : i < s.size) : s.data.toList.drop i = s[i] :: s.data.toList.drop (i + 1) := by
  rw [List.drop_eq_getElem_cons (by simpa using h)]; rfl
theorem extract_mk (s : ByteArray) (a b : Nat) : (⟨((s.data.toList.drop a).take (b - a)).toArray⟩ : ByteArray) = s.extract a b := by
  rw [← Lib.extract_data, mk_toList]
theorem Mid.comma {s : ByteArray} {done : List ByteArray} {frm i : Nat} (h : Mid s done frm i) (hi : i < s.size) (hc : s[i] = 44) : Mid s (done ++ [s.extract frm i]) (i + 1) (i + 1) := by
  obtain ⟨h1, h2, h3⟩ := h
  refine ⟨Nat.le_refl _, by omega, ?_⟩
  rw [← h3, drop_cons s i hi, spl, if_pos hc, Nat.sub_self, List.take_zero, List.map_cons, extract_mk]
  simp
theorem Mid.other {s : ByteArray} {done : List ByteArray} {frm i : Nat} (h : Mid s done frm i) (hi : i < s.size) (hc : s[i] ≠ 44) : Mid s done frm (i + 1) := by
  obtain ⟨h1, h2, h3⟩ := h
  refine ⟨by omega, by omega, ?_⟩
  have e : i + 1 - frm = (i - frm) + 1 := by omega
  have hx : (s.data.toList.drop frm)[i - frm]? = some s[i] := by
    rw [List.getElem?_drop, show frm + (i - frm) = i by omega, List.getElem?_eq_getElem (by simpa using hi)]; rfl
  rw [← h3, drop_cons s i hi, spl, if_neg hc, e, List.take_add_one, hx]
  rfl
theorem Mid.last {s : ByteArray} {done : List ByteArray} {frm : Nat} (h : Mid s done frm s.size) : done ++ [s.extract frm s.size] = parts s := by
  obtain ⟨h1, h2, h3⟩ := h
  rw [← h3, List.drop_eq_nil_of_le (by simp : s.data.toList.length ≤ s.size), spl, List.map_singleton, extract_mk]

theorem spl_ne (c : UInt8) : ∀ (l acc : List UInt8), 1 ≤ (spl c acc l).length
  | [], acc => by simp [spl]
  | x :: r, acc => by
    by_cases h : x = c
    · simp [spl, h]
    · rw [spl, if_neg h]; exact spl_ne c r _
theorem spl_len (c : UInt8) : ∀ (l acc : List UInt8), (spl c acc l).length ≤ l.length + 1
  | [], acc => by simp [spl]
  | x :: r, acc => by
    by_cases h : x = c
    · simp only [spl, if_pos h, List.length_cons]; have := spl_len c r []; omega
    · rw [spl, if_neg h]; have := spl_len c r (acc ++ [x]); simp only [List.length_cons]; omega
theorem parts_len_le (s : ByteArray) : (parts s).length ≤ s.size + 1 := by
  rw [parts, List.length_map]; have := spl_len 44 s.data.toList []; rw [Pure1.size_eq] at this; exact this
theorem Mid.len {s : ByteArray} {done : List ByteArray} {frm i : Nat} (h : Mid s done frm i) : done.length ≤ s.size := by
  obtain ⟨h1, h2, h3⟩ := h
  have e := congrArg List.length h3
  rw [List.length_append, List.length_map] at e
  have := spl_ne 44 (s.data.toList.drop i) ((s.data.toList.drop frm).take (i - frm))
  have := parts_len_le s
  omega
theorem extract_size_le (s : ByteArray) (a b : Nat) : (s.extract a b).size ≤ s.size := by rw [ByteArray.size_extract]; omega
theorem spl_sizes (c : UInt8) : ∀ (l acc : List UInt8), ∀ p ∈ spl c acc l, p.length ≤ acc.length + l.length
  | [], acc, p, h => by simp [spl] at h; subst h; simp
  | x :: r, acc, p, h => by
    by_cases e : x = c
    · simp only [spl, if_pos e, List.mem_cons] at h
      rcases h with rfl | h
      · omega
      · have := spl_sizes c r [] p h; simp at this ⊢; omega
    · rw [spl, if_neg e] at h
      have := spl_sizes c r _ p h
      simp at this ⊢; omega
theorem parts_sizes (s : ByteArray) : ∀ x ∈ parts s, x.size ≤ s.size := by
  intro x hx
  simp only [parts, List.mem_map] at hx
  obtain ⟨l, hl, rfl⟩ := hx
  have := spl_sizes 44 _ _ l hl
  show l.toArray.size ≤ _
  rw [List.size_toArray]; simpa using this

/-- the words with a text, and the error -/
def minus : ByteArray := ⟨#[45]⟩
theorem minus_yes : (minus.toList == [45]) = true := by rw [ByteArray.toList_eq]; rfl
theorem minus_no {s : ByteArray} (h : s ≠ minus) : (s.toList == [45]) = false := by
  rw [ByteArray.toList_eq, beq_eq_false_iff_ne]
  intro e; apply h; rw [← mk_toList s, e]; rfl
/-- what the program takes for the parts -/
def iparts (s : ByteArray) : List ByteArray := if s = minus then [] else parts s
theorem iparts_len (s : ByteArray) : (iparts s).length ≤ s.size + 1 := by
  unfold iparts; split
  · exact Nat.zero_le _
  · exact parts_len_le s
theorem iparts_sizes (s : ByteArray) : ∀ x ∈ iparts s, x.size ≤ s.size := by
  unfold iparts; split
  · intro x h; simp at h
  · exact parts_sizes s
def readWords (s : ByteArray) : List ByteArray × Int := if s = minus then ([], 0) else if wordsErr (parts s) = 0 then (parts s, 0) else ([], 6)
theorem readWords_eq (s : ByteArray) : readWords s = if wordsErr (iparts s) = 0 then (iparts s, 0) else ([], 6) := by
  unfold readWords iparts
  split
  · rw [if_pos (show wordsErr [] = 0 from rfl)]
  · rfl
theorem readWords_len (s : ByteArray) : (readWords s).1.length ≤ s.size + 1 := by
  rw [readWords_eq]; split
  · exact iparts_len s
  · exact Nat.zero_le _

end Go.Proofs.YtmpopfcnjgcncaaDoor.Pure5
