/- Contract: impl.splitParts splits a text at commas. -/
import Derived.Test.YtmpopfcnjgcncaaGreatDoorChecked
import Derived.Test.YtmpopfcnjgcncaaGreatDoorBase0
import Derived.Test.YtmpopfcnjgcncaaGreatDoorSplit
import Derived.Test.YtmpopfcnjgcncaaGreatDoorSpl
import Derived.WalkKit
import Derived.WalkSpells
import Derived.WalkLawsBesides
import Derived.Lib.Hide
import Derived.Deep.OwnRows
import Derived.Outline
namespace Go.Proofs.YtmpopfcnjgcncaaGreatDoor
open Go.RowKit Pure3 Pure5

/-- the library's variable MaxLen holds some number -/
def MaxAt (w : World) : Prop := ∃ m, w.cell? ⟨0, 0, none⟩ = some (.int .i64 m)
theorem MaxAt.below {w w' : World} (h : MaxAt w) (hb : Below w.heap.size w w') : MaxAt w' := ⟨_, cell_later hb h.choose_spec⟩
theorem maxAt_of {w : World} (h : w.ShapedOpen Tryz.prog) : MaxAt w := Tryz.laysM146.s1_3 w h

/-- a new slice of texts is returned -/
def SaysNew (ss : List ByteArray) (w : World) (e : Ending) (w' : World) : Prop := ∃ v, e = .returned v ∧ NewStrs w ss v w'

theorem newStrs_nil (w : World) {w' : World} (h : Below w.heap.size w w') : NewStrs w [] (.slice none 0 0) w' := ⟨none, 0, rfl, Nat.le_refl _, h, .inl rfl⟩
theorem newStrs_row (w : World) (ss : List ByteArray) : NewStrs w ss (.slice (some ⟨w.heap.size, 0, none⟩) ss.length ss.length) (w.alloc (.cells (ss.map Value.string).toArray 9)) :=
  ⟨_, _, rfl, Nat.le_refl _, (Below.refl _ _).alloc (Nat.le_refl _) _, .inr ⟨_, fun i => ((ss.map Value.string)[i]?).getD undef, ss.length, rfl, Nat.le_refl _, Nat.le_refl _, by
    have := World.rowIs_alloc w (ss.map Value.string).toArray 9 (fun i => ((ss.map Value.string)[i]?).getD undef) (fun i hi => by
      simp only [List.size_toArray] at hi
      rw [List.getElem?_toArray, List.getElem?_eq_getElem hi]; rfl)
    simpa using this, fun i x hx => by simp [hx]⟩⟩

set_option maxHeartbeats 400000 in
theorem implSplitParts_any (s : ByteArray) (w : World) (hs : s.size ≤ 1048576) (hM : MaxAt w) :
    Calls Tryz.prog 56 #[.string s] w (SaysNew (iparts s) w) := by
  by_cases h : s = minus
  · have HN := Lib.hid (show iparts s = [] by rw [iparts, if_pos h])
    have hb : (s.toList == [45]) = true := by rw [h]; exact minus_yes
    clear h hM
    go_enter Tryz.func56, Tryz.ntmps56
    go_wp2_with fail
    go_ret
    exact ⟨_, rfl, by rw [HN.out]; exact newStrs_nil _ (Below.refl _ _)⟩
  · have HN := Lib.hid (show iparts s = parts s by rw [iparts, if_neg h])
    have hb := minus_no h
    obtain ⟨m, hm⟩ := hM
    have hC := Tryz.strings_Split s comma m w (by omega) hm (by decide)
    rw [splitB_parts, ← parts_length] at hC
    have HC := Lib.hid hC
    clear h hm hC
    go_enter Tryz.func56, Tryz.ntmps56
    go_wp2_with fail
    refine HC.out.mono ?_; rintro e w1 ⟨rfl, rfl⟩
    go_wp2_with fail
    go_ret
    exact ⟨_, rfl, by rw [HN.out]; exact newStrs_row w (parts s)⟩

end Go.Proofs.YtmpopfcnjgcncaaGreatDoor
