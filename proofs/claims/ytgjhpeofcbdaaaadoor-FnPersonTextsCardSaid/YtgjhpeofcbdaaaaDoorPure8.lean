/- Plain facts on reading lists of numbers. No program is imported here. -/
import Derived.Test.YtgjhpeofcbdaaaaDoorPure7
namespace Go.Proofs.YtgjhpeofcbdaaaaDoor.Pure8
open Go.RowKit Pure1 Pure2 Pure3 Pure4 Pure5 Pure7

/-- the list has this text -/
def IsList (s : ByteArray) (zs : List Int) : Prop := iparts s = zs.map decB ∧ listErr zs = 0
theorem val_bd {x : Int} (h : isVal x = true) : -9223372036854775808 ≤ x ∧ x ≤ 9223372036854775807 := by
  have := (isVal_iff x).1 h; omega
theorem map_dec_inj : ∀ {a b : List Int}, (∀ n ∈ a, -9223372036854775808 ≤ n ∧ n ≤ 9223372036854775807) → (∀ n ∈ b, -9223372036854775808 ≤ n ∧ n ≤ 9223372036854775807) → a.map decB = b.map decB → a = b
  | [], [], _, _, _ => rfl
  | [], y :: t, _, _, h => by simp at h
  | x :: r, [], _, _, h => by simp at h
  | x :: r, y :: t, ha, hb, h => by
    simp only [List.map_cons, List.cons.injEq] at h
    have h1 := ha x (by simp); have h2 := hb y (by simp)
    rw [decB_inj h1.1 h1.2 h2.1 h2.2 h.1, map_dec_inj (fun n hn => ha n (by simp [hn])) (fun n hn => hb n (by simp [hn])) h.2]
theorem listErr_bd {zs : List Int} (h : listErr zs = 0) : ∀ n ∈ zs, -9223372036854775808 ≤ n ∧ n ≤ 9223372036854775807 := by
  rcases listErr_cases zs with ⟨_, hall, _⟩ | h2 | h3
  · intro n hn; rw [List.all_eq_true] at hall; exact val_bd (hall n hn)
  · omega
  · omega
/-- the numbers with a text, and the error -/
noncomputable def readList (s : ByteArray) : List Int × Int := @dite _ (∃ zs, IsList s zs) (Classical.propDecidable _) (fun h => (h.choose, 0)) (fun _ => ([], 6))
theorem readList_yes {s : ByteArray} {zs : List Int} (h : IsList s zs) : readList s = (zs, 0) := by
  unfold readList
  rw [dif_pos ⟨zs, h⟩]
  have hc := (⟨zs, h⟩ : ∃ zs, IsList s zs).choose_spec
  rw [map_dec_inj (listErr_bd hc.2) (listErr_bd h.2) (hc.1.symm.trans h.1)]
theorem readList_no {s : ByteArray} (h : ∀ zs, ¬ IsList s zs) : readList s = ([], 6) := by
  unfold readList
  rw [dif_neg (fun ⟨zs, hz⟩ => h zs hz)]
theorem readList_of {s : ByteArray} {ns : List Int} (h : iparts s = ns.map decB) (hb : ∀ n ∈ ns, -9223372036854775808 ≤ n ∧ n ≤ 9223372036854775807) : readList s = if listErr ns = 0 then (ns, 0) else ([], 6) := by
  by_cases he : listErr ns = 0
  · rw [if_pos he]; exact readList_yes ⟨h, he⟩
  · rw [if_neg he]
    refine readList_no fun zs hz => he ?_
    rw [map_dec_inj hb (listErr_bd hz.2) (h.symm.trans hz.1)]; exact hz.2
theorem readList_bad {s x : ByteArray} (hx : x ∈ iparts s) (h : ∀ m, -9999999999999 ≤ m → m ≤ 9999999999999 → decB m ≠ x) : readList s = ([], 6) := by
  refine readList_no fun zs hz => ?_
  rw [hz.1, List.mem_map] at hx
  obtain ⟨m, hm, e⟩ := hx
  rcases listErr_cases zs with ⟨_, hall, _⟩ | h2 | h3
  · rw [List.all_eq_true] at hall
    have := (isVal_iff m).1 (hall m hm)
    exact h m (by omega) (by omega) e
  · have := hz.2; omega
  · have := hz.2; omega
theorem iparts_parts {s : ByteArray} (h : s ≠ minus) : iparts s = parts s := by rw [iparts, if_neg h]
theorem readList_minus : readList minus = ([], 0) := readList_yes ⟨by rw [iparts, if_pos rfl]; rfl, rfl⟩
theorem readList_len (s : ByteArray) : (readList s).1.length ≤ 60 := by
  by_cases h : ∃ zs, IsList s zs
  · obtain ⟨zs, hz⟩ := h
    rw [readList_yes hz]
    rcases listErr_cases zs with ⟨_, _, h60⟩ | h2 | h3
    · exact h60
    · have := hz.2; omega
    · have := hz.2; omega
  · rw [readList_no (fun zs hz => h ⟨zs, hz⟩)]; exact Nat.zero_le _
theorem take_snocS {ss : List ByteArray} {ns : List Int} {k : Nat} {x : ByteArray} {n : Int} (ht : ss.take (k + 1) = ss.take k ++ [x]) (h : ss.take k = ns.map decB) (hn : decB n = x) : ss.take (k + 1) = (ns ++ [n]).map decB := by
  rw [ht, h, List.map_append, List.map_singleton, hn]
theorem bd_snoc {ns : List Int} {n lo hi : Int} (h : ∀ m ∈ ns, lo ≤ m ∧ m ≤ hi) (h1 : lo ≤ n) (h2 : n ≤ hi) : ∀ m ∈ ns ++ [n], lo ≤ m ∧ m ≤ hi := by
  intro m hm
  rcases List.mem_append.1 hm with hm | hm
  · exact h m hm
  · rw [List.mem_singleton] at hm; rw [hm]; exact ⟨h1, h2⟩

end Go.Proofs.YtgjhpeofcbdaaaaDoor.Pure8
