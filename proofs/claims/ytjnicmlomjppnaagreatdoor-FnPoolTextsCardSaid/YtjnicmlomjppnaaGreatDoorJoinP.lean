/- Contract: impl.joinParts joins texts. -/
import Derived.Test.YtjnicmlomjppnaaGreatDoorChecked
import Derived.Test.YtjnicmlomjppnaaGreatDoorBase0
import Derived.Test.YtjnicmlomjppnaaGreatDoorJoin
import Derived.WalkKit
import Derived.WalkSpells
import Derived.WalkLawsBesides
import Derived.Lib.Hide
namespace Go.Proofs.YtjnicmlomjppnaaGreatDoor
open Go.RowKit Pure1 Pure3

set_option maxHeartbeats 400000 in
theorem implJoinParts_any (a : Option Addr) (len cap : Nat) (ss : List ByteArray) (w : World) (hl : ss.length = len) (hm : len ≤ cap) (hc : len ≤ 1000000000) (h : StrsAt w a ss) (hsz : szs ss + ss.length ≤ 1000000000) :
    Calls Tryz.prog 37 #[.slice a len cap] w (SaysT (wordsT ss) w) := by
  by_cases h0 : len = 0
  · obtain rfl := len_eq hl h0
    subst h0
    clear hl h
    go_enter Tryz.func37, Tryz.ntmps37
    go_wp2
    go_ret
    exact ⟨ret_str wordsT_none.symm, Below.refl _ _⟩
  · rcases h with rfl | ⟨b, off, rfl, hcell⟩
    · exact absurd hl.symm h0
    · have hne := len_ne hl h0
      have hlt : b < w.heap.size := by
        have := hcell 0 _ (List.getElem?_eq_getElem (by omega))
        exact World.block_lt_of_cell? w _ this
      have HJ := Lib.hid (Tryz.strings_Join b off cap ss comma w hcell hlt (by omega) (by omega) (by
        have := joinB_size ss comma
        have e : (joinB ss comma).size = (Lib.join (ss.map (·.data.toList)) comma.data.toList).length := by rw [← joinB_join]; exact List.size_toArray
        rw [e, show comma.size = 1 from rfl, Nat.one_mul] at this
        omega))
      rw [hl] at HJ
      have HN := Lib.hid (wordsT_some hne)
      have hz : ((len : Int) == 0) = false := beq_eq_false_iff_ne.2 (by omega)
      clear hl hcell hne h0
      go_enter Tryz.func37, Tryz.ntmps37
      go_wp2_with fail
      refine HJ.out.mono ?_
      rintro e w1 ⟨rfl, hB⟩
      have HB := Lib.hid hB; clear hB
      go_wp2_with fail
      go_ret
      exact ⟨ret_str (by rw [HN.out]; rfl), HB.out⟩

end Go.Proofs.YtjnicmlomjppnaaGreatDoor
