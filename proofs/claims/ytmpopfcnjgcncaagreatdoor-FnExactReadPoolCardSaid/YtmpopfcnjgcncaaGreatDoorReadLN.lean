/- Contract: spec.l01Numbers. -/
import Derived.Test.YtmpopfcnjgcncaaGreatDoorChecked
import Derived.Test.YtmpopfcnjgcncaaGreatDoorBase0
import Derived.Test.YtmpopfcnjgcncaaGreatDoorInfo
import Derived.Test.YtmpopfcnjgcncaaGreatDoorSplit
import Derived.Test.YtmpopfcnjgcncaaGreatDoorSplitI
import Derived.Test.YtmpopfcnjgcncaaGreatDoorNums
import Derived.Test.YtmpopfcnjgcncaaGreatDoorListErr
import Derived.Test.YtmpopfcnjgcncaaGreatDoorMarkI
import Derived.Test.YtmpopfcnjgcncaaGreatDoorReadLB
import Derived.WalkKit
import Derived.WalkSpells
import Derived.WalkLawsBesides
import Derived.Lib.Hide
import Derived.Deep.OwnRows
import Derived.Outline
namespace Go.Proofs.YtmpopfcnjgcncaaGreatDoor
open Go.RowKit Pure2 Pure3 Pure4 Pure5 Pure7 Pure8

/-- what reading numbers says -/
def NumsRead (ss : List ByteArray) (w : World) (e : Ending) (w' : World) : Prop :=
  (∃ (v : Value) (ns : List Int), e = .returned (.tuple #[v, .bool true]) ∧ ss = ns.map decB ∧ (∀ n ∈ ns, -9999999999999 ≤ n ∧ n ≤ 9999999999999) ∧ w'.ownsRow w.heap.size 2 1 v ns.length (ns.map (Value.int .i64)) ∧ Below w.heap.size w w') ∨
  (e = .returned (.tuple #[.slice none 0 0, .bool false]) ∧ (∃ x, x ∈ ss ∧ ∀ m, -9999999999999 ≤ m → m ≤ 9999999999999 → decB m ≠ x) ∧ Below w.heap.size w w')
theorem owns_snocL {w : World} {base e : Nat} {v : Value} {zs : List Int} {x : Int} (h : w.ownsRow base e 1 v (zs.length + 1) (zs.map (Value.int .i64) ++ [Value.int .i64 x])) :
    w.ownsRow base e 1 v (zs ++ [x]).length ((zs ++ [x]).map (Value.int .i64)) := by
  rw [List.length_append, List.map_append]; exact h

set_option maxRecDepth 100000 in
set_option maxHeartbeats 400000 in
theorem specNumbers_any (a : Option Addr) (len cap : Nat) (ss : List ByteArray) (w : World) (hl : ss.length = len) (hm : len ≤ 1048577) (h : StrsAt w a ss) (hz : ∀ x ∈ ss, x.size ≤ 1048576) :
    Calls Tryz.prog 58 #[.slice a len cap] w (NumsRead ss w) := by
  obtain ⟨i0, hi, hz0, hz1, hz2⟩ := info_parts Tryz.info_i64
  have HL := Lib.hid hl; have HX := Lib.hid h; have HZ := Lib.hid hz; clear hl h hz
  go_enter Tryz.func58, Tryz.ntmps58
  go_wp2_with fail
  go_loopw [4, 5, 6, 7, 15] (fun v i _ _ _ wr => ∃ (k : Nat) (ns : List Int), k ≤ len ∧ i = .int .i64 k ∧ ns.length = k ∧ ss.take k = ns.map decB ∧ (∀ n ∈ ns, -9999999999999 ≤ n ∧ n ≤ 9999999999999) ∧ wr.ownsRow w.heap.size 2 1 v ns.length (ns.map (Value.int .i64)) ∧ Below w.heap.size w wr) (fun _ i _ _ _ _ => len - (intOf i).toNat)
  case atStart => exact ⟨0, [], Nat.zero_le _, rfl, rfl, by simp, by simp, World.ownsRow_lit w #[] 0 (Nat.le_refl _) (by decide) rfl, (Below.refl _ _).alloc (Nat.le_refl _) _⟩
  case round =>
    obtain ⟨k, ns, hk, rfl, hnl, hnt, hnb, ho, hB⟩ := hrel
    have hnk : ns.length ≤ 1048577 := by omega
    have HNL := Lib.hid hnl; have HNT := Lib.hid hnt; have HNB := Lib.hid hnb; have HO := Lib.hid ho; have HB := Lib.hid hB
    clear hnl hnt hnb ho hB
    by_cases hlt : k < len
    · obtain ⟨b, off, x, ha, hc, ht, hx⟩ := (HX.out.below HB.out).at HL.out hlt
      have HTK := Lib.hid ht
      have HXM := Lib.hid (List.mem_of_getElem? hx)
      have HC := Lib.hid (specSigned_any x wr (HZ.out x (List.mem_of_getElem? hx)))
      clear ht hx
      subst ha
      go_wp2_with fail
      refine HC.out.mono ?_; rintro e w2 ⟨n, bb, rfl, hN, hB2⟩
      have HN := Lib.hid hN
      have hown := HO.out.kept (w' := w2) (row := none) ⟨hB2.os, hB2.tape, hB2.output, hB2.size, fun k hk _ => hB2.block k hk⟩ (by
        cases hv : (Value.ownBlock _) with
        | none => exact .inl rfl
        | some g => exact .inr (by intro e; cases e))
      have HB2 := Lib.hid (HB.out.trans (hB2.mono HB.out.size)); clear hN hB2
      cases bb with
      | true =>
        have HNN := Lib.hid (HN.out.1 rfl)
        go_wp2_with (at_builtin; refine wpList_append_own _ rfl _ _ 24 rfl w.heap.size 2 i0 (.int .i64 0) 1 8 Tryz.underlying24 hi hz0 hz1 hz2 rfl (by decide) _ _ _ rfl (hown.alloc _) ⟨w2.heap.size, 0, none⟩ 1 1 [.int .i64 n] rfl rfl ?c1 ?c2 ?c3 ?c4 ?c5 ?_)
        case c1 => exact cell_one_new _ _ _
        case c2 => intro u hu; simp at hu; subst hu; rfl
        case c3 => unfold maxLen; omega
        case c4 => omega
        case c5 => have := HB2.out.size; simp; omega
        intro v' w5 hown' hgrow _
        have HO5 := Lib.hid (owns_snocL hown')
        have HB5 := Lib.hid ((HB2.out.alloc HB2.out.size _).grown hgrow (by have := HB2.out.size; simp; omega) (fun k hk => (hown.lt k hk).1))
        clear hown hown' hgrow
        go_wp2_with fail
        go_roundw
        case rel => exact ⟨k + 1, ns ++ [n], by omega, by go_num, by rw [List.length_append, HNL.out]; rfl, take_snocS HTK.out HNT.out HNN.out.1, bd_snoc HNB.out HNN.out.2.1 HNN.out.2.2, HO5.out, HB5.out⟩
        case measure => simp [intOf]; omega
      | false =>
        have HBad := Lib.hid (HN.out.2 rfl)
        clear hown
        go_wp2_with fail
        go_ret2
        exact .inr ⟨rfl, ⟨x, HXM.out, HBad.out⟩, HB2.out⟩
    · have HPS := Lib.hid (show ss = ns.map decB by have := HNT.out; rwa [List.take_of_length_le (by rw [HL.out]; omega)] at this)
      go_wp2_with fail
      go_ret2
      exact .inl ⟨_, ns, rfl, HPS.out, HNB.out, HO.out, HB.out⟩

end Go.Proofs.YtmpopfcnjgcncaaGreatDoor
