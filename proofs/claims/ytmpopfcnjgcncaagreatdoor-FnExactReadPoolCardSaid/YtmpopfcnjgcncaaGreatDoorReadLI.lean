/- Contract: impl.ReadList. -/
import Derived.Test.YtmpopfcnjgcncaaGreatDoorChecked
import Derived.Test.YtmpopfcnjgcncaaGreatDoorBase0
import Derived.Test.YtmpopfcnjgcncaaGreatDoorInfo
import Derived.Test.YtmpopfcnjgcncaaGreatDoorSplit
import Derived.Test.YtmpopfcnjgcncaaGreatDoorSplitI
import Derived.Test.YtmpopfcnjgcncaaGreatDoorNums
import Derived.Test.YtmpopfcnjgcncaaGreatDoorListErr
import Derived.Test.YtmpopfcnjgcncaaGreatDoorMarkI
import Derived.Test.YtmpopfcnjgcncaaGreatDoorReadLB
import Derived.WalkKit
import Derived.WalkSpells
import Derived.WalkLawsBesides
import Derived.Lib.Hide
import Derived.Deep.OwnRows
import Derived.Outline
namespace Go.Proofs.YtmpopfcnjgcncaaGreatDoor
open Go.RowKit Pure2 Pure3 Pure4 Pure5 Pure7 Pure8

set_option maxRecDepth 100000 in
set_option maxHeartbeats 400000 in
theorem implReadList_any (s : ByteArray) (w : World) (hs : s.size ≤ 1048576) (hM : MaxAt w) (hE : ErrsAt w) (hT : Tabs Tryz.prog w) :
    Calls Tryz.prog 28 #[.string s] w (SaysNewI (readList s).1 (readList s).2 w) := by
  have HS := Lib.hid (implSplitParts_any s w hs hM)
  have hlen := iparts_len s
  have HZ := Lib.hid (iparts_sizes s)
  have HE := Lib.hid hE; have HT := Lib.hid hT
  have HRO := Lib.hid (fun (ns : List Int) => readList_of (s := s) (ns := ns))
  have HRB := Lib.hid (fun x => readList_bad (s := s) (x := x))
  clear hM hE hT
  have hmk := run_make_row' (P := Tryz.prog) 24 2 (.int .i64 0) 8 Tryz.underlying24 Tryz.info_i64 rfl .i64 .i64 (iparts s).length (by omega) (by omega)
  generalize hps : iparts s = ps at *
  obtain ⟨len, hl⟩ : ∃ len, len = ps.length := ⟨_, rfl⟩
  rw [← hl] at hmk hlen
  have HL := Lib.hid hl; clear hl hps
  go_enter Tryz.func28, Tryz.ntmps28
  go_wp2_with fail
  refine HS.out.mono ?_; rintro e w1 ⟨v, rfl, hN⟩
  obtain ⟨a, cap, rfl, hcap, hB, hrow⟩ := hN
  have HX := Lib.hid (NewStrs.at (⟨a, cap, rfl, hcap, hB, hrow⟩ : NewStrs w ps (.slice a ps.length cap) w1))
  have HB := Lib.hid hB; clear hB hrow hcap
  rw [← HL.out]
  go_wp2_with fail
  go_loopw [6, 7, 8, 9, 17, 22] (fun _ _ _ _ i _ wr => ∃ (k : Nat) (ns : List Int) (f : Nat → Value), k ≤ len ∧ i = .int .i64 k ∧ ns.length = k ∧ ps.take k = ns.map decB ∧ (∀ n ∈ ns, -9223372036854775808 ≤ n ∧ n ≤ 9223372036854775807) ∧ wr.rowIs w1.heap.size 2 len f ∧ (∀ i x, ns[i]? = some x → f i = .int .i64 x) ∧ Below w1.heap.size w1 wr) (fun _ _ _ _ i _ _ => len - (intOf i).toNat)
  case atStart => exact ⟨0, [], _, Nat.zero_le _, rfl, rfl, by simp, by simp, World.rowIs_made _ _ _ _, by simp, (Below.refl _ _).alloc (Nat.le_refl _) _⟩
  case round =>
    obtain ⟨k, ns, f, hk, rfl, hnl, hnt, hnb, hr, hf, hB⟩ := hrel
    have HNL := Lib.hid hnl; have HNT := Lib.hid hnt; have HNB := Lib.hid hnb; have HR := Lib.hid hr; have HF := Lib.hid hf; have HB1 := Lib.hid hB
    have HBT := Lib.hid (HB.out.trans (hB.mono HB.out.size))
    clear hnl hnt hnb hr hf hB
    by_cases hlt : k < len
    · obtain ⟨b, off, x, ha, hc, ht, hx⟩ := (HX.out.below HB1.out).at HL.out.symm hlt
      have HTK := Lib.hid ht
      have HXM := Lib.hid (List.mem_of_getElem? hx)
      have hxs : x.size ≤ 1048576 := Nat.le_trans (HZ.out x (List.mem_of_getElem? hx)) hs
      clear ht hx
      have HC := Lib.hid (implReadNumber_any x wr hxs (HE.out.below HBT.out) (HT.out.below Tryz.gPow HBT.out))
      subst ha
      go_wp2_with fail
      refine HC.out.mono ?_; rintro e w2 ⟨n, bb, rfl, hN, hB2⟩
      have HN := Lib.hid hN
      have HR2 := Lib.hid (HR.out.of_block (hB2.block _ HR.out.lt))
      have HB2 := Lib.hid (HB1.out.trans (hB2.mono HB1.out.size)); clear hN hB2
      cases bb with
      | true =>
        have hc2 := HR2.out.cell hlt
        have hf2 := HR2.out.frozen k
        have HNN := Lib.hid (HN.out.1 rfl)
        go_wp2_with fail
        go_roundw
        case rel =>
          have hset := HR2.out.set k (.int .i64 n)
          have hstep := list_step (n := n) HF.out
          rw [HNL.out] at hstep
          exact ⟨k + 1, ns ++ [n], _, by omega, by go_num, by rw [List.length_append, HNL.out]; rfl, take_snocS HTK.out HNT.out HNN.out.1, bd_snoc HNB.out HNN.out.2.1 HNN.out.2.2, hset, hstep, HB2.out.setCell (Nat.le_refl _) _⟩
        case measure => simp [intOf]; omega
      | false =>
        have HRL := Lib.hid (HRB.out x HXM.out (fun m l1 l2 => HN.out.2 rfl m (by omega) (by omega)))
        go_wp2_with fail
        go_ret2
        exact ⟨none, 0, ret_slI (by rw [HRL.out]; rfl) (by rw [HRL.out]), .inl (by rw [HRL.out]; rfl), HB.out.trans (HB2.out.mono HB.out.size)⟩
    · have hps : ps = ns.map decB := by have := HNT.out; rwa [List.take_of_length_le (by rw [← HL.out]; omega)] at this
      have HRL := Lib.hid (HRO.out ns hps HNB.out)
      have hnl2 : ns.length = len := by rw [HNL.out]; omega
      have HO := Lib.hid (ownI_row (w := w) HR.out HB.out.size hnl2 HF.out)
      have hml : len ≤ maxLen := by unfold maxLen; omega
      have HC := Lib.hid (implListError_any (some ⟨w1.heap.size, 0, none⟩) len len ns wr hnl2 hml (ownI_reads HO.out))
      have HNL2 := Lib.hid hnl2
      clear hps hnl2 hml
      go_wp2_with fail
      refine HC.out.mono ?_; rintro e w' ⟨rfl, rfl⟩
      by_cases he : listErr ns = 0
      · rw [if_pos he] at HRL
        rw [he]; clear he
        go_wp2_with fail
        go_ret2
        exact ⟨some ⟨w1.heap.size, 0, none⟩, len, ret_slI (by rw [HRL.out, HNL2.out]; rfl) (by rw [HRL.out]), by rw [HRL.out]; exact HO.out, HBT.out⟩
      · rw [if_neg he] at HRL
        have hne : (listErr ns == 0) = false := beq_eq_false_iff_ne.2 he
        have hne2 : (listErr ns != 0) = true := bne_iff_ne.2 he
        clear he
        go_wp2_with fail
        go_ret2
        exact ⟨none, 0, ret_slI (by rw [HRL.out]; rfl) (by rw [HRL.out]), .inl (by rw [HRL.out]; rfl), HBT.out⟩

end Go.Proofs.YtmpopfcnjgcncaaGreatDoor
