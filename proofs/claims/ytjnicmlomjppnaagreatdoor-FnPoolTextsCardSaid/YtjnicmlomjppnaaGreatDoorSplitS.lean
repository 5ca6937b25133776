/- Contract: spec.l01Split splits a text at slashes, beside XSplit's (at commas). -/
import Derived.Test.YtjnicmlomjppnaaGreatDoorChecked
import Derived.Test.YtjnicmlomjppnaaGreatDoorBase0
import Derived.Test.YtjnicmlomjppnaaGreatDoorSplit
import Derived.Test.YtjnicmlomjppnaaGreatDoorInfo
import Derived.Test.YtjnicmlomjppnaaGreatDoorSpl
import Derived.WalkKit
import Derived.WalkSpells
import Derived.WalkLawsBesides
import Derived.Lib.Hide
import Derived.Deep.OwnRows
import Derived.Outline
namespace Go.Proofs.YtjnicmlomjppnaaGreatDoor
open Go.RowKit Pure3 Pure5 Pure42

set_option maxRecDepth 100000 in
set_option maxHeartbeats 800000 in
theorem specSplitS_any (s : ByteArray) (w : World) (hs : s.size ≤ 1048576) :
    Calls Tryz.prog 26 #[.string s, .int .u8 47] w (OwnedStrs (partsS s) w) := by
  obtain ⟨i0, hi, hz0, hz1, hz2⟩ := info_parts Tryz.info_str
  go_enter Tryz.func26, Tryz.ntmps26
  go_wp2
  go_loopw [5, 6, 7] (fun v fr i wr => ∃ (done : List ByteArray) (frm k : Nat), fr = .int .i64 frm ∧ i = .int .i64 k ∧ wr.ownsRow w.heap.size 9 1 v done.length (done.map Value.string) ∧ Below w.heap.size w wr ∧ ((k ≤ s.size ∧ MidS s done frm k) ∨ (s.size < k ∧ k ≤ s.size + 1 ∧ done = partsS s))) (fun _ _ i _ => s.size + 1 - (intOf i).toNat)
  case atStart => exact ⟨[], 0, 0, rfl, rfl, World.ownsRow_lit _ #[] 0 (Nat.le_refl _) (by decide) rfl, (Below.refl _ _).alloc (Nat.le_refl _) _, .inl ⟨Nat.zero_le _, MidS.start s⟩⟩
  case round =>
    obtain ⟨done, frm, k, rfl, rfl, hown, hB, hm⟩ := hrel
    rcases hm with ⟨hk, hm⟩ | ⟨hk, hk2, rfl⟩
    · have HM := Lib.hid hm; have HB := Lib.hid hB; clear hB
      have hfr : frm ≤ k := hm.1
      have hdl : done.length ≤ s.size := hm.len
      clear hm
      by_cases hlast : k = s.size
      · have HL := Lib.hid hlast
        have hk2 : s.size ≤ k := by omega
        have heq : ((k : Int) == s.size) = true := beq_iff_eq.2 (by omega)
        clear hlast
        go_wp2_with (at_builtin; refine wpList_append_own _ rfl _ _ 41 rfl w.heap.size 9 i0 (.string ⟨#[]⟩) 1 16 Tryz.underlying41 hi hz0 hz1 hz2 rfl (by decide) _ _ _ rfl (hown.alloc _) ⟨wr.heap.size, 0, none⟩ 1 1 [.string (s.extract frm k)] rfl rfl ?c1 ?c2 ?c3 ?c4 ?c5 ?_)
        case c1 => exact cell_one_new _ _ _
        case c2 => intro u hu; simp at hu; subst hu; rfl
        case c3 => unfold maxLen; omega
        case c4 => omega
        case c5 => have := HB.out.size; simp; omega
        intro v' w1 hown' hgrow _
        have HO := Lib.hid (owns_snoc hown')
        have HB1 := Lib.hid ((HB.out.alloc HB.out.size _).grown hgrow (by have := HB.out.size; simp; omega) (fun k hk => (hown.lt k hk).1))
        have HN := Lib.hid (show done ++ [s.extract frm k] = partsS s by rw [HL.out]; exact MidS.last (by have := HM.out; rwa [HL.out] at this))
        clear hown hown' hgrow
        go_wp2
        go_roundw
        case rel => exact ⟨done ++ [s.extract frm k], k + 1, k + 1, by go_num, by go_num, HO.out, HB1.out, .inr ⟨by omega, by omega, HN.out⟩⟩
        case measure => simp [intOf]; omega
      · have hlt : k < s.size := by omega
        have hne : ((k : Int) == s.size) = false := beq_eq_false_iff_ne.2 (by omega)
        clear hlast
        by_cases hc : s[k] = 47
        · have hc' : ((s[k].toNat : Int) == 47) = true := by rw [hc]; rfl
          have HC := Lib.hid hc; clear hc
          go_wp2_with (at_builtin; refine wpList_append_own _ rfl _ _ 41 rfl w.heap.size 9 i0 (.string ⟨#[]⟩) 1 16 Tryz.underlying41 hi hz0 hz1 hz2 rfl (by decide) _ _ _ rfl (hown.alloc _) ⟨wr.heap.size, 0, none⟩ 1 1 [.string (s.extract frm k)] rfl rfl ?d1 ?d2 ?d3 ?d4 ?d5 ?_)
          case d1 => exact cell_one_new _ _ _
          case d2 => intro u hu; simp at hu; subst hu; rfl
          case d3 => unfold maxLen; omega
          case d4 => omega
          case d5 => have := HB.out.size; simp; omega
          intro v' w1 hown' hgrow _
          have HO := Lib.hid (owns_snoc hown')
          have HB1 := Lib.hid ((HB.out.alloc HB.out.size _).grown hgrow (by have := HB.out.size; simp; omega) (fun k hk => (hown.lt k hk).1))
          have HN := Lib.hid (HM.out.slash hlt HC.out)
          clear hown hown' hgrow
          go_wp2
          go_roundw
          case rel => exact ⟨done ++ [s.extract frm k], k + 1, k + 1, by go_num, by go_num, HO.out, HB1.out, .inl ⟨by omega, HN.out⟩⟩
          case measure => simp [intOf]; omega
        · have hc' : ((s[k].toNat : Int) == 47) = false := by
            rw [beq_eq_false_iff_ne]; intro e; apply hc; apply UInt8.toNat_inj.1; show s[k].toNat = 47; omega
          have HN := Lib.hid (HM.out.other hlt hc)
          go_wp2
          go_roundw
          case rel => exact ⟨done, frm, k + 1, rfl, by go_num, hown, HB.out, .inl ⟨by omega, HN.out⟩⟩
          case measure => simp [intOf]; omega
    · have HB := Lib.hid hB; have HO := Lib.hid hown; clear hB hown hk2
      go_wp2
      go_ret
      exact ⟨_, rfl, HO.out, HB.out⟩

end Go.Proofs.YtjnicmlomjppnaaGreatDoor
