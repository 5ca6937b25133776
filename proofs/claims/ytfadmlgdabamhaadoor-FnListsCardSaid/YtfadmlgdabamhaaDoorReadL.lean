/- Contract: spec.ReadList. -/
import Derived.Test.YtfadmlgdabamhaaDoorChecked
import Derived.Test.YtfadmlgdabamhaaDoorPure8
import Derived.Test.YtfadmlgdabamhaaDoorBase
import Derived.Test.YtfadmlgdabamhaaDoorInfo
import Derived.Test.YtfadmlgdabamhaaDoorSplit
import Derived.Test.YtfadmlgdabamhaaDoorSplitI
import Derived.Test.YtfadmlgdabamhaaDoorNums
import Derived.Test.YtfadmlgdabamhaaDoorListErr
import Derived.Test.YtfadmlgdabamhaaDoorMarkI
import Derived.Test.YtfadmlgdabamhaaDoorReadLB
import Derived.Test.YtfadmlgdabamhaaDoorReadLN
import Derived.Test.YtfadmlgdabamhaaDoorReadLI
import Derived.WalkKit
import Derived.WalkSpells
import Derived.WalkLawsBesides
import Derived.Lib.Hide
import Derived.Deep.OwnRows
import Derived.Outline
namespace Go.Proofs.YtfadmlgdabamhaaDoor
open Go.RowKit Pure2 Pure3 Pure4 Pure5 Pure7 Pure8

set_option maxRecDepth 100000 in
set_option maxHeartbeats 400000 in
theorem specReadList_any (s : ByteArray) (w : World) (hs : s.size ≤ 1048576) :
    Calls Tryd.prog 24 #[.string s] w (SaysReadI (readList s).1 (readList s).2 w) := by
  by_cases h : s = minus
  · have HN := Lib.hid (show readList s = ([], 0) by rw [h]; exact readList_minus)
    have hb : (s.toList == [45]) = true := by rw [h]; exact minus_yes
    clear h
    go_enter Tryd.func24, Tryd.ntmps24
    go_wp2_with fail
    go_ret2
    exact ⟨some ⟨w.heap.size, 0, none⟩, 0, ret_slI (by rw [HN.out]; rfl) (by rw [HN.out]), .inl (by rw [HN.out]), (Below.refl _ _).alloc (Nat.le_refl _) _⟩
  · have hb := minus_no h
    have HP := Lib.hid (iparts_parts h)
    have HS := Lib.hid (specSplit_any s w hs)
    have hlen := parts_len_le s
    have HZ := Lib.hid (fun x hx => Nat.le_trans (parts_sizes s x hx) hs)
    have HRO := Lib.hid (fun (ns : List Int) (h1 : parts s = ns.map decB) => readList_of (s := s) (ns := ns) (HP.out.trans h1))
    have HRB := Lib.hid (fun x (h1 : x ∈ parts s) => readList_bad (s := s) (x := x) (by rw [HP.out]; exact h1))
    clear h
    go_enter Tryd.func24, Tryd.ntmps24
    go_wp2_with fail
    refine HS.out.mono ?_; rintro e w1 ⟨v, rfl, ho, hB⟩
    obtain ⟨a, cap, rfl, hcap, hat⟩ := strsAt_of_owns ho
    have HX := Lib.hid hat; have HB := Lib.hid hB; clear hB hat hcap ho
    go_wp2_with fail
    refine (specNumbers_any a _ cap (parts s) w1 rfl (by omega) HX.out HZ.out).mono ?_
    rintro e w2 (⟨v, ns, rfl, hps, hnb, ho, hB2⟩ | ⟨rfl, ⟨x, hx, hbad⟩, hB2⟩)
    · have HRL := Lib.hid (HRO.out ns hps (fun n hn => by have := hnb n hn; omega))
      have hnl : ns.length ≤ 1048577 := by have := congrArg List.length hps; rw [List.length_map] at this; omega
      obtain ⟨a2, cap2, rfl, _, hI⟩ := intsAt_of_owns' ho
      have HI := Lib.hid hI; have HB2 := Lib.hid (HB.out.trans (hB2.mono HB.out.size))
      clear hps hnb ho hB2 hI
      by_cases he : listErr ns = 0
      · rw [if_pos he] at HRL
        have HC := Lib.hid (specValues_any a2 ns.length cap2 ns w2 rfl (by unfold maxLen; omega) HI.out)
        rw [he] at HC; clear he
        go_wp2_with fail
        refine HC.out.mono ?_; rintro e w' ⟨rfl, rfl⟩
        go_wp2_with fail
        go_ret2
        exact ⟨a2, cap2, ret_slI (by rw [HRL.out]; rfl) (by rw [HRL.out]), by rw [HRL.out]; exact HI.out, HB2.out⟩
      · rw [if_neg he] at HRL
        have HC := Lib.hid (specValues_any a2 ns.length cap2 ns w2 rfl (by unfold maxLen; omega) HI.out)
        have hne : (listErr ns == 0) = false := beq_eq_false_iff_ne.2 he
        have hne2 : (listErr ns != 0) = true := bne_iff_ne.2 he
        clear he
        go_wp2_with fail
        refine HC.out.mono ?_; rintro e w' ⟨rfl, rfl⟩
        go_wp2_with fail
        go_ret2
        exact ⟨none, 0, ret_slI (by rw [HRL.out]; rfl) (by rw [HRL.out]), .inl (by rw [HRL.out]), HB2.out⟩
    · have HRL := Lib.hid (HRB.out x hx hbad)
      have HB2 := Lib.hid (HB.out.trans (hB2.mono HB.out.size))
      clear hx hbad hB2
      go_wp2_with fail
      go_ret2
      exact ⟨none, 0, ret_slI (by rw [HRL.out]; rfl) (by rw [HRL.out]), .inl (by rw [HRL.out]), HB2.out⟩

end Go.Proofs.YtfadmlgdabamhaaDoor
