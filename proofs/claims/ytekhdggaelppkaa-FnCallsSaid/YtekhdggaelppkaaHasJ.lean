/- Contracts: the laws' own helper hasInt. -/
import Derived.Test.YtekhdggaelppkaaChecked
import Derived.Test.YtekhdggaelppkaaBase0
import Derived.WalkKit
import Derived.WalkSpells
import Derived.WalkLawsBesides
import Derived.Lib.Hide
import Derived.IntWalk
import Derived.Outline
namespace Go.Proofs.Ytekhdggaelppkaa
open Go.RowKit Pure1 Pure2 Pure3

/-- does a list have a number? -/
def hasJ (zs : List Int) (x : Int) : Bool := decide (x ∈ zs)
set_option maxHeartbeats 400000 in
theorem lawsHasInt_any (a : Option Addr) (len cap : Nat) (zs : List Int) (x : Int) (w : World) (hl : zs.length = len) (hm : len ≤ maxLen) (h : IntsAt w a zs) :
    Calls Try.prog 29 #[.slice a len cap, .int .i64 x] w fun e w' => e = .returned (.bool (hasJ zs x)) ∧ w = w' := by
  unfold maxLen at hm
  have HL := Lib.hid hl; have HI := Lib.hid h; clear hl h
  go_enter Try.func29, Try.ntmps29
  go_wp2
  go_loop [5] (fun i => ∃ j : Nat, j ≤ len ∧ i = .int .i64 j ∧ ∀ k, k < j → zs[k]? ≠ some x) (fun i => len - (intOf i).toNat)
  case atStart => exact ⟨0, Nat.zero_le _, rfl, fun k hk => by omega⟩
  case round =>
    obtain ⟨j, hj, rfl, hno⟩ := hrel
    have HN := Lib.hid hno; clear hno
    by_cases hlt : j < len
    · obtain ⟨b, off, y, ha, hc, ht, hy⟩ := HI.out.at HL.out hlt
      subst ha
      by_cases hyx : y = x
      · subst hyx
        have HT := Lib.hid (show hasJ zs y = true from decide_eq_true (List.mem_of_getElem? hy))
        clear ht hy
        go_wp2
        go_ret
        exact ⟨ret_bool' HT.out.symm, rfl⟩
      · have hb : (y == x) = false := beq_eq_false_iff_ne.2 hyx
        have HY := Lib.hid hy; have HX := Lib.hid hyx
        clear ht hy hyx
        go_wp2
        go_round
        case rel => exact ⟨j + 1, by omega, by go_num, fun k hk e => by
          by_cases e2 : k = j
          · subst e2; rw [HY.out] at e; exact HX.out (Option.some.inj e)
          · exact HN.out k (by omega) e⟩
        case measure => simp [intOf]; omega
    · have HT := Lib.hid (show hasJ zs x = false from decide_eq_false fun hm => by
        obtain ⟨k, hk⟩ := List.mem_iff_getElem?.1 hm
        exact HN.out k (by have := (List.getElem?_eq_some_iff.1 hk).1; have := HL.out; omega) hk)
      go_wp2
      go_ret
      exact ⟨ret_bool' HT.out.symm, rfl⟩

end Go.Proofs.Ytekhdggaelppkaa
