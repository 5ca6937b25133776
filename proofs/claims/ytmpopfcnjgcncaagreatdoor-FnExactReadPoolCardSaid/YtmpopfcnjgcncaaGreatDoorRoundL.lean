/- Plain facts: words and numbers are recovered from their text. No program is imported here. -/
import Derived.Test.YtmpopfcnjgcncaaGreatDoorBase0
namespace Go.Proofs.YtmpopfcnjgcncaaGreatDoor.Pure8
open Go.RowKit Pure1 Pure2 Pure3 Pure4 Pure5 Pure7

theorem join_two (x y : List UInt8) (r : List (List UInt8)) (sep : List UInt8) : Lib.join (x :: y :: r) sep = x ++ (sep ++ Lib.join (y :: r) sep) := by
  rw [Lib.join_cons, Lib.join_cons]; simp [Lib.joinTail, List.append_assoc]
theorem spl_app (c : UInt8) : ∀ (x : List UInt8), c ∉ x → ∀ acc l, spl c acc (x ++ c :: l) = (acc ++ x) :: spl c [] l
  | [], _, acc, l => by simp [spl]
  | y :: r, h, acc, l => by
    have h1 : ¬ y = c := fun e => h (by rw [e]; exact List.mem_cons_self)
    have h2 : c ∉ r := fun e => h (List.mem_cons_of_mem _ e)
    rw [List.cons_append, spl, if_neg h1, spl_app c r h2, List.append_assoc]; rfl
theorem spl_last (c : UInt8) : ∀ (x : List UInt8), c ∉ x → ∀ acc, spl c acc x = [acc ++ x]
  | [], _, acc => by simp [spl]
  | y :: r, h, acc => by
    have h1 : ¬ y = c := fun e => h (by rw [e]; exact List.mem_cons_self)
    have h2 : c ∉ r := fun e => h (List.mem_cons_of_mem _ e)
    rw [spl, if_neg h1, spl_last c r h2, List.append_assoc]; rfl
theorem spl_join (c : UInt8) : ∀ (xs : List (List UInt8)), xs ≠ [] → (∀ x ∈ xs, c ∉ x) → spl c [] (Lib.join xs [c]) = xs
  | [], h, _ => absurd rfl h
  | [x], _, h => by rw [Lib.join_one, spl_last c x (h x List.mem_cons_self), List.nil_append]
  | x :: y :: r, _, h => by
    rw [join_two]
    show spl c [] (x ++ c :: Lib.join (y :: r) [c]) = _
    rw [spl_app c x (h x List.mem_cons_self), spl_join c (y :: r) (by simp) (fun z hz => h z (List.mem_cons_of_mem _ hz)), List.nil_append]
theorem join_spl (c : UInt8) : ∀ (l acc : List UInt8), Lib.join (spl c acc l) [c] = acc ++ l
  | [], acc => by rw [spl, Lib.join_one, List.append_nil]
  | x :: r, acc => by
    by_cases h : x = c
    · subst h
      rw [spl, if_pos rfl]
      have ih := join_spl x r []
      have hne := spl_ne x r []
      cases hs : spl x [] r with
      | nil => rw [hs] at hne; simp at hne
      | cons y t => rw [hs] at ih; rw [join_two, ih]; rfl
    · rw [spl, if_neg h, join_spl c r (acc ++ [x]), List.append_assoc]; rfl
theorem join_parts (s : ByteArray) : joinB (parts s) comma = s := by
  unfold joinB parts
  rw [List.map_map, show ((fun x : ByteArray => x.data.toList) ∘ fun l : List UInt8 => (⟨l.toArray⟩ : ByteArray)) = id from funext fun l => by simp, List.map_id]
  show (⟨(Lib.join (spl 44 [] s.data.toList) [44]).toArray⟩ : ByteArray) = s
  rw [join_spl, List.nil_append, mk_toList]
theorem parts_join {ss : List ByteArray} (h : ss ≠ []) (hc : ∀ x ∈ ss, (44 : UInt8) ∉ x.data.toList) : parts (joinB ss comma) = ss := by
  unfold joinB parts
  show (spl 44 [] (Lib.join (ss.map (·.data.toList)) [44])).map _ = ss
  rw [spl_join 44 _ (by simpa using h) (by intro x hx; obtain ⟨y, hy, rfl⟩ := List.mem_map.1 hx; exact hc y hy), List.map_map]
  rw [show ((fun l : List UInt8 => (⟨l.toArray⟩ : ByteArray)) ∘ fun x : ByteArray => x.data.toList) = id from funext fun l => mk_toList l, List.map_id]
theorem parts_ne (s : ByteArray) : parts s ≠ [] := by
  intro e; have := spl_ne 44 s.data.toList []; unfold parts at e
  rw [List.map_eq_nil_iff] at e; rw [e] at this; simp at this
theorem text_parts (s : ByteArray) : wordsT (iparts s) = s := by
  by_cases h : s = minus
  · rw [iparts, if_pos h, h]; rfl
  · rw [iparts, if_neg h, wordsT, if_neg (parts_ne s), join_parts]
theorem parts_text {ss : List ByteArray} (hc : ∀ x ∈ ss, (44 : UInt8) ∉ x.data.toList) (hm : ∀ x ∈ ss, x ≠ minus) : iparts (wordsT ss) = ss := by
  by_cases h : ss = []
  · subst h; rfl
  · rw [wordsT, if_neg h]
    have e := parts_join h hc
    by_cases hj : joinB ss comma = minus
    · exfalso
      have e2 : parts minus = [minus] := by unfold parts minus; simp [spl]
      rw [hj, e2] at e
      exact hm minus (by rw [← e]; exact List.mem_cons_self) rfl
    · rw [iparts, if_neg hj, e]

theorem word_no44 {l : List UInt8} (h : isWordL l = true) (c : UInt8) (hc : c.toNat < 97) : c ∉ l := by
  intro hm
  have : Pure1.letter c = true := by
    simp only [isWordL, Bool.and_eq_true, List.all_eq_true] at h
    exact h.2.2 c hm
  have := ((Pure1.letter_iff c).1 this).1
  omega
theorem words_there (ss : List ByteArray) : ∃ t bad, wordsText ss = (t, bad) ∧ ((bad = 0 ∧ readWords t = (ss, 0) ∧ t.size ≤ 1048576) ∨ bad = 1 ∨ bad = 3) := by
  unfold wordsText
  rcases wordsErr_cases ss with ⟨he, hall, h60⟩ | ⟨he, _⟩ | ⟨he, _⟩
  · rw [if_pos he]
    have hw : ∀ x ∈ ss, isWordL x.data.toList = true := by unfold allWords at hall; exact List.all_eq_true.1 hall
    have hp : iparts (wordsT ss) = ss := parts_text (fun x hx => word_no44 (hw x hx) 44 (by decide)) (fun x hx e => by have := word_no44 (hw x hx) 45 (by decide); rw [e] at this; exact this (by decide))
    refine ⟨_, _, rfl, .inl ⟨rfl, ?_, ?_⟩⟩
    · rw [readWords_eq, hp, if_pos he]
    · unfold wordsT
      split
      · exact (by decide : (1 : Nat) ≤ 1048576)
      · have h1 := joinB_size ss comma
        have h2 := allWords_szs hall
        have h3 : comma.size = 1 := rfl
        rw [h3] at h1
        omega
  · rw [if_neg (by rw [he]; decide)]; exact ⟨_, _, rfl, .inr (.inl he)⟩
  · rw [if_neg (by rw [he]; decide)]; exact ⟨_, _, rfl, .inr (.inr he)⟩
theorem words_back (s : ByteArray) : ∃ ys one, readWords s = (ys, one) ∧ ((one = 0 ∧ wordsText ys = (s, 0) ∧ ys.length ≤ 60 ∧ ∀ x ∈ ys, x.size ≤ 16) ∨ (one = 6 ∧ ys = [])) := by
  rw [readWords_eq]
  by_cases h : wordsErr (iparts s) = 0
  · rw [if_pos h]
    refine ⟨_, _, rfl, .inl ⟨rfl, by rw [wordsText, if_pos h, text_parts], ?_⟩⟩
    rcases wordsErr_cases (iparts s) with ⟨_, hall, h60⟩ | ⟨he, _⟩ | ⟨he, _⟩
    · refine ⟨h60, fun x hx => ?_⟩
      have := word_size (List.all_eq_true.1 (show (iparts s).all _ = true from hall) x hx)
      simpa using this
    · rw [he] at h; cases h
    · rw [he] at h; cases h
  · rw [if_neg h]; exact ⟨_, _, rfl, .inr ⟨rfl, rfl⟩⟩

theorem dec_no44 (n : Int) : (44 : UInt8) ∉ (decB n).data.toList := by
  intro hm
  by_cases h : n < 0
  · obtain ⟨u, rfl⟩ : ∃ u : Nat, n = -(u : Int) := ⟨(-n).toNat, by omega⟩
    rw [decB_neg (by omega), ByteArray.data_append, Array.toList_append, List.mem_append] at hm
    rcases hm with hm | hm
    · revert hm; decide
    · rw [decB_toList (by omega)] at hm
      have := ((dec_spec _).1 _ hm).1
      revert this; decide
  · rw [decB_toList (by omega)] at hm
    have := ((dec_spec _).1 _ hm).1
    revert this; decide
theorem dec_minus (n : Int) : decB n ≠ minus := by
  intro e
  have e2 : (decB n).data.toList = [45] := by rw [e]; rfl
  by_cases h : n < 0
  · obtain ⟨u, rfl⟩ : ∃ u : Nat, n = -(u : Int) := ⟨(-n).toNat, by omega⟩
    rw [decB_neg (by omega), ByteArray.data_append, Array.toList_append] at e2
    rw [decB_toList (by omega)] at e2
    have e3 : (45 : UInt8) :: Lib.decDigits ((u : Int)).toNat = [45] := e2
    exact dec_ne _ (List.cons.inj e3).2
  · rw [decB_toList (by omega)] at e2
    have := ((dec_spec n.toNat).1 45 (by rw [e2]; exact List.mem_cons_self)).1
    revert this; decide
theorem lists_there (zs : List Int) : ∃ t bad, listText zs = (t, bad) ∧ ((bad = 0 ∧ readList t = (zs, 0) ∧ t.size ≤ 1048576) ∨ bad = 2 ∨ bad = 3) := by
  unfold listText
  rcases listErr_cases zs with ⟨he, hall, h60⟩ | he | he
  · rw [if_pos he]
    have hp : iparts (listT zs) = zs.map decB := parts_text (fun x hx => by obtain ⟨n, _, rfl⟩ := List.mem_map.1 hx; exact dec_no44 n) (fun x hx => by obtain ⟨n, _, rfl⟩ := List.mem_map.1 hx; exact dec_minus n)
    refine ⟨_, _, rfl, .inl ⟨rfl, readList_yes ⟨hp, he⟩, ?_⟩⟩
    unfold listT wordsT
    split
    · exact (by decide : (1 : Nat) ≤ 1048576)
    · have h1 := joinB_size (zs.map decB) comma
      have h2 := numTexts_size zs hall
      have h3 : comma.size = 1 := rfl
      rw [List.length_map, h3] at h1
      omega
  · rw [if_neg (by rw [he]; decide)]; exact ⟨_, _, rfl, .inr (.inl he)⟩
  · rw [if_neg (by rw [he]; decide)]; exact ⟨_, _, rfl, .inr (.inr he)⟩
theorem lists_back (s : ByteArray) : ∃ ys one, readList s = (ys, one) ∧ ((one = 0 ∧ listText ys = (s, 0) ∧ ys.length ≤ 60) ∨ (one = 6 ∧ ys = [])) := by
  by_cases h : ∃ zs, IsList s zs
  · obtain ⟨zs, hz⟩ := h
    have hl := readList_len s
    rw [readList_yes hz] at hl
    refine ⟨zs, 0, readList_yes hz, .inl ⟨rfl, ?_, hl⟩⟩
    rw [listText, if_pos hz.2, listT, ← hz.1, text_parts]
  · exact ⟨[], 6, readList_no (fun zs hz => h ⟨zs, hz⟩), .inr ⟨rfl, rfl⟩⟩

end Go.Proofs.YtmpopfcnjgcncaaGreatDoor.Pure8
