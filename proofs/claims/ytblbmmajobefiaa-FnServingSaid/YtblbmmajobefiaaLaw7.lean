/- Chapter 7's answers as the laws ask for them: in memory of their own. -/
import Derived.Test.YtblbmmajobefiaaChecked
import Derived.Test.YtblbmmajobefiaaBase
import Derived.Test.YtblbmmajobefiaaInfo
import Derived.Test.YtblbmmajobefiaaMarkI
import Derived.Test.YtblbmmajobefiaaEqInt
import Derived.Test.YtblbmmajobefiaaIntL
import Derived.Test.YtblbmmajobefiaaBuildI
import Derived.Test.YtblbmmajobefiaaTermA
import Derived.Test.YtblbmmajobefiaaTermB
import Derived.Test.YtblbmmajobefiaaTermM
import Derived.Test.YtblbmmajobefiaaTermC
import Derived.Test.YtblbmmajobefiaaPure70
import Derived.Test.YtblbmmajobefiaaPure71
import Derived.Test.YtblbmmajobefiaaSpec7
import Derived.Test.YtblbmmajobefiaaAdd7
import Derived.Test.YtblbmmajobefiaaServ7
import Derived.WalkKit
import Derived.WalkSpells
import Derived.WalkLawsBesides
import Derived.Lib.Hide
import Derived.Outline
namespace Go.Proofs.Ytblbmmajobefiaa
open Go.RowKit Pure1 Pure2 Pure3 Pure20 Pure40

/-- numbers of our own and a code -/
def SaysNewI (zs : List Int) (n : Int) (w : World) (e : Ending) (w' : World) : Prop :=
  ∃ a cap, e = .returned (.tuple #[.slice a zs.length cap, .int .i64 n]) ∧ OwnI w.heap.size w' a zs.length (fun i => zs.getD i 0) ∧ Below w.heap.size w w'
theorem SaysIL.newI {zs : List Int} {c : Int} {w w' : World} {e : Ending} (h : SaysIL zs c w e w') : SaysNewI zs c w e w' := by
  obtain ⟨v, rfl, ⟨a, cap, rfl⟩, h1, hB⟩ := h
  rcases h1 with rfl | h1
  · exact ⟨a, cap, rfl, .inl rfl, hB⟩
  · obtain ⟨a', cap', e, _, ho⟩ := BuildI.own (show BuildI w.heap.size w' (.slice a zs.length cap) zs from h1.2)
    cases e
    exact ⟨a, cap, rfl, ho, hB⟩
/-- terms of our own and a code -/
def SaysNewT (ts : List Term) (n : Int) (w : World) (e : Ending) (w' : World) : Prop :=
  ∃ a cap, e = .returned (.tuple #[.slice a ts.length cap, .int .i64 n]) ∧ Term.Own w.heap.size w' a ts.length (Term.flat ts) ∧ Below w.heap.size w w'
theorem SaysTerms.newT {ts : List Term} {c : Int} {w w' : World} {e : Ending} (h : SaysTerms ts c w e w') : SaysNewT ts c w e w' := by
  obtain ⟨v, rfl, ⟨a, cap, rfl⟩, h1, hB⟩ := h
  rcases h1 with rfl | h1
  · exact ⟨a, cap, rfl, .inl rfl, hB⟩
  · obtain ⟨a', cap', e, ho⟩ := h1.own
    cases e
    exact ⟨a, cap, rfl, ho, hB⟩
theorem ownI_kept {C : Nat} {w w' : World} {a : Option Addr} {len : Nat} {g : Nat → Int} {row : Option Nat} (h : OwnI C w a len g) (hg : w.grownBy w' row) (hrow : ∀ k, row = some k → k < C) : OwnI C w' a len g := by
  rcases h with h | ⟨b, f, N, e, hB, hN, hr, hf⟩
  · exact .inl h
  · exact .inr ⟨b, f, N, e, hB, hN, hr.of_block (hg.block b hr.lt (fun e => by have := hrow b e.symm; omega)), hf⟩
theorem ownI_mono {B C : Nat} {w : World} {a : Option Addr} {len : Nat} {g : Nat → Int} (h : OwnI C w a len g) (hBC : B ≤ C) : OwnI B w a len g := by
  rcases h with h | ⟨b, f, N, e, hB, h2⟩
  · exact .inl h
  · exact .inr ⟨b, f, N, e, by omega, h2⟩
/-- what marking the terms' copy in block b leaves of a row from block C on -/
theorem marked_grown {w w' : World} {b : Nat} (h : w' = w ∨ ∃ b', some (⟨b, 0, none⟩ : Addr) = some ⟨b', 0, none⟩ ∧ w.grownBy w' (some b')) : w.grownBy w' (some b) := by
  rcases h with rfl | ⟨b', e, h⟩
  · exact ⟨rfl, rfl, rfl, Nat.le_refl _, fun _ _ _ => rfl⟩
  · cases e; exact h
theorem overL_small {ts : List Term} (h : ts.length ≤ 20) : (overL ts).length ≤ 20 := Nat.le_trans (numsTo_len _ _ _) h
theorem overR_small (ts : List Term) : (overR ts).1.length ≤ 20 := by
  unfold overR
  rcases codeT_cases ts 1 0 with ⟨hc, hA, _⟩ | hc | hc
  · rw [if_pos hc]; exact overL_small (areT_len hA)
  · rw [if_neg (by rw [hc]; decide)]; exact Nat.zero_le _
  · rw [if_neg (by rw [hc]; decide)]; exact Nat.zero_le _
theorem servR_small (ts : List Term) (d : Int) : (servR ts d).1.length ≤ 20 := by
  unfold servR
  rcases codeT_cases ts 1 d with ⟨hc, hA, _⟩ | hc | hc
  · rw [if_pos hc]; exact Nat.le_trans (numsTo_len _ _ _) (areT_len hA)
  · rw [if_neg (by rw [hc]; decide)]; exact Nat.zero_le _
  · rw [if_neg (by rw [hc]; decide)]; exact Nat.zero_le _
theorem sameI {w : World} {zs : List Int} {e : Ending} {w' : World} (h : SaysB (sameL zs zs) w e w') : e = .returned (.bool true) ∧ Below w.heap.size w w' := by
  have hs : sameL zs zs = true := by simp [sameL]
  rw [hs] at h
  obtain ⟨h1, n, rfl⟩ := h
  exact ⟨h1, Go.below_drewN (Below.refl _ _) n⟩

set_option maxRecDepth 100000 in
set_option maxHeartbeats 1000000 in
/-- the model's AddTerm at a list of any length -/
theorem specAddTerm_all (b0 cap : Nat) (len : Nat) (ts : List Term) (c : Term) (w : World) (hl : ts.length = len) (hm : len ≤ maxLen) (hI : Term.ListAt w (some ⟨b0, 0, none⟩) ts) :
    Calls Try.prog 22 #[.slice (some ⟨b0, 0, none⟩) len cap, .agg #[.int .i64 c.num, .int .i64 c.frm, .int .i64 c.to]] w (SaysTerms (addR7 ts c).1 (addR7 ts c).2 w) := by
  by_cases hs : len ≤ 10000
  · refine specAddTerm_any b0 0 cap len ts c w hl hs fun i t ht => ?_
    rcases hI with rfl | ⟨b, off, e, h⟩
    · simp at ht
    · cases e; exact h i t ht
  · have HF := Lib.hid (show addR7 ts c = ([], 1) by unfold addR7; rw [if_neg (by rw [areT_long (by omega)]; decide)])
    have HW := Lib.hid (Term.bx w (.cells #[.int .i64 c.num, .int .i64 c.frm, .int .i64 c.to] 32))
    have HT := Lib.hid (specAreTerms_any (some ⟨b0, 0, none⟩) len cap ts (w.alloc (.cells #[.int .i64 c.num, .int .i64 c.frm, .int .i64 c.to] 32)) hl hm (hI.below HW.out))
    rw [areT_long (show 20 < ts.length by omega)] at HT
    generalize addR7 ts c = v at HF ⊢
    clear hI
    go_enter Try.func22, Try.ntmps22
    go_wp2_with fail
    refine HT.out.mono ?_; rintro e w1 ⟨rfl, hB⟩
    have HB := Lib.hid (HW.out.trans (hB.mono HW.out.size)); clear hB
    go_wp2_with fail
    go_ret2
    rw [HF.out]
    exact ⟨_, rfl, ⟨_, _, rfl⟩, .inl rfl, HB.out⟩
end Go.Proofs.Ytblbmmajobefiaa
