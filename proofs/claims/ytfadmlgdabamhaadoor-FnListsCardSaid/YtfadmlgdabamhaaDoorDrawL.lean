/- Contracts: spec.DrawListText and spec.DrawReadList draw a list of numbers and a text of a list. -/
import Derived.Test.YtfadmlgdabamhaaDoorChecked
import Derived.Test.YtfadmlgdabamhaaDoorPure4
import Derived.Test.YtfadmlgdabamhaaDoorPure6
import Derived.Test.YtfadmlgdabamhaaDoorBase
import Derived.Test.YtfadmlgdabamhaaDoorFrom
import Derived.Test.YtfadmlgdabamhaaDoorListT
import Derived.Test.YtfadmlgdabamhaaDoorDrawV
import Derived.Test.YtfadmlgdabamhaaDoorDrawW
import Derived.Test.YtfadmlgdabamhaaDoorDrawM
import Derived.WalkKit
import Derived.WalkSpells
import Derived.WalkLawsBesides
import Derived.Lib.Hide
import Derived.Deep.OwnRows
import Derived.Outline
namespace Go.Proofs.YtfadmlgdabamhaaDoor
open Go.RowKit Pure2 Pure3 Pure4 Pure6

theorem listT_few {zs : List Int} (h : zs.all isVal = true) (hl : zs.length ≤ 5) : (listT zs).size ≤ 500 := by
  by_cases h0 : zs = []
  · subst h0; exact (by decide : (1 : Nat) ≤ 500)
  · rw [listT_some h0]
    have h1 := joinB_size (zs.map decB) comma
    have h2 := numTexts_size zs h
    have h3 : comma.size = 1 := rfl
    rw [List.length_map, h3] at h1
    omega
theorem isVal_small {x : Int} (h0 : -1000 ≤ x) (h1 : x ≤ 1000) : isVal x = true := (isVal_iff x).2 (by omega)

set_option maxHeartbeats 400000 in
theorem specDrawListText_any (a : Option Addr) (len cap : Nat) (bs : List Int) (w : World) (hl : bs.length = len) (hm : len ≤ 4096) (h : BytesAt w.heap.size w a bs) :
    Calls Tryd.prog 19 #[.slice a len cap] w (DrewInts w.heap.size w) := by
  have HF := Lib.hid (specFrom_any a len cap bs w hl hm h); clear h hl
  go_enter Tryd.func19, Tryd.ntmps19
  go_wp2_with fail
  refine HF.out.mono ?_; rintro e w1 ⟨b, rfl, hS, hB⟩
  have HB := Lib.hid hB
  go_wp2_with fail
  refine (specDrawList_any w.heap.size b w1 hS).mono ?_; rintro e w2 ⟨a2, cap2, zs, rfl, hc, hz, hI, hB2⟩
  have HR := Lib.hid (⟨a2, cap2, zs, rfl, hc, hz, hI, HB.out.trans hB2⟩ : DrewInts w.heap.size w (.returned (.slice a2 zs.length cap2)) w2)
  clear hS hB hc hz hI hB2
  go_wp2_with fail
  go_ret
  exact HR.out

set_option maxRecDepth 100000 in
set_option maxHeartbeats 1000000 in
theorem specDrawReadList_any (a : Option Addr) (len cap : Nat) (bs : List Int) (w : World) (hl : bs.length = len) (hm : len ≤ 4096) (h : BytesAt w.heap.size w a bs) :
    Calls Tryd.prog 22 #[.slice a len cap] w (DrewS 1000 w) := by
  obtain ⟨i0, hi, hz0, hz1, hz2⟩ := info_parts Tryd.info_i64
  have HF := Lib.hid (specFrom_any a len cap bs w hl hm h); clear h hl
  go_enter Tryd.func22, Tryd.ntmps22
  go_wp2_with fail
  refine HF.out.mono ?_; rintro e w1 ⟨b, rfl, hS, hB⟩
  have HB := Lib.hid hB; have HS := Lib.hid hS; have hbB := hS.base; have hb1 := hS.lt; clear hS hB
  obtain ⟨B, hBB⟩ : ∃ B, B = w.heap.size := ⟨_, rfl⟩
  rw [← hBB] at HB HS hbB
  have HC := Lib.hid (specNext_any B b 6 (w1.alloc (.cells #[] 2)) (by omega) (HS.out.alloc _))
  go_wp2_with fail
  refine HC.out.mono ?_; rintro e w2 ⟨x, rfl, hx, _, hS2, hg⟩
  obtain ⟨l1, u1⟩ := hx (by omega)
  have HS2 := Lib.hid hS2
  have hB1 := HB.out.size
  have HB2 := Lib.hid ((HB.out.alloc (by omega) (.cells #[] 2)).trans (grown_below hg hbB (by simp; omega)))
  have HO := Lib.hid (owns_kept (World.ownsRow_lit (base := b + 1) (size := 1) (e := 2) w1 #[] 0 (by omega) (by decide) rfl) hg (by omega))
  obtain ⟨n0, rfl⟩ := Int.eq_ofNat_of_zero_le l1
  clear hS2 hg hx l1 HC HS
  go_wp2_with fail
  go_loopw [4, 5] (fun v i wr => ∃ (zs : List Int) (m : Nat), i = .int .i64 m ∧ zs.length + m ≤ 5 ∧ zs.all isVal = true ∧ wr.ownsRow (b + 1) 2 1 v zs.length (zs.map (Value.int .i64)) ∧ Src B 78 wr b ∧ Below B w wr) (fun _ i _ => (intOf i).toNat)
  case atStart => exact ⟨[], n0, rfl, by simp; omega, rfl, HO.out, HS2.out, HB2.out⟩
  case round =>
    obtain ⟨zs, m, rfl, hm, hv, ho, hS, hB⟩ := hrel
    have HO := Lib.hid ho; have HS := Lib.hid hS; have HB := Lib.hid hB; have HV := Lib.hid hv
    have hbr := hS.lt
    clear ho hS hB hv
    by_cases hm0 : 0 < m
    · go_wp2_with fail
      refine (specNext_any B b 200 wr (by omega) HS.out).mono ?_; rintro e w4 ⟨y, rfl, hy, _, hS4, hg4⟩
      obtain ⟨l2, u2⟩ := hy (by omega)
      have hown := owns_kept HO.out hg4 (by omega)
      have hbw4 := hS4.lt
      have HS4 := Lib.hid hS4; have HB4 := Lib.hid (HB.out.trans (grown_below hg4 hbB (by omega)))
      have HV4 := Lib.hid (show (zs ++ [y - 100]).all isVal = true by rw [List.all_append, HV.out, List.all_cons, isVal_small (by omega) (by omega)]; rfl)
      clear hS4 hg4 hy
      go_wp2_with (at_builtin; refine wpList_append_own _ rfl _ _ 32 rfl (b + 1) 2 i0 (.int .i64 0) 1 8 Tryd.underlying32 hi hz0 hz1 hz2 rfl (by decide) _ _ _ rfl (hown.alloc _) ⟨w4.heap.size, 0, none⟩ 1 1 [.int .i64 (y - 100)] rfl rfl ?c1 ?c2 ?c3 ?c4 ?c5 ?_)
      case c1 => exact cell_one_new _ _ _
      case c2 => intro u hu; simp at hu; subst hu; rfl
      case c3 => unfold maxLen; omega
      case c4 => omega
      case c5 => simp; omega
      intro v' w5 hown' hgrow _
      have HO5 := Lib.hid (owns_snocI hown')
      have HG5 := Lib.hid (show (w4.alloc (.cells #[.int .i64 (y - 100)] 2)).grownBy w5 _ from hgrow)
      have hne5 := fun k hk => (hown.lt k hk).1
      have HS5 := Lib.hid ((HS4.out.alloc (.cells #[.int .i64 (y - 100)] 2)).kept (HG5.out.block b (by simp; omega) (by intro e; have := hne5 b e.symm; omega))
        ((Below.refl B _).grown HG5.out (by simp; omega) (fun k hk => by have := hne5 k hk; omega)))
      have HB5 := Lib.hid ((HB4.out.alloc (by omega) (.cells #[.int .i64 (y - 100)] 2)).grown HG5.out (by simp; omega) (fun k hk => by have := hne5 k hk; omega))
      clear hown hown' hgrow hne5
      go_wp2_with fail
      go_roundw
      case rel => exact ⟨zs ++ [y - 100], m - 1, by go_num, by simp; omega, HV4.out, HO5.out, HS5.out, HB5.out⟩
      case measure => simp [intOf]; omega
    · have hzl : zs.length ≤ 5 := by omega
      obtain ⟨a3, cap3, rfl, hcap, hI⟩ := intsAt_of_owns HO.out
      have HI := Lib.hid hI; clear hI
      go_wp2_with fail
      refine (specText_any a3 zs.length cap3 zs wr rfl (by omega) HI.out HV.out).mono ?_; rintro e w3 ⟨rfl, hB3⟩
      have HTS := Lib.hid (listT_few HV.out hzl)
      generalize listT zs = t at HTS ⊢
      have HS3 := Lib.hid (src_calls HS.out hB3); have HB3 := Lib.hid (HB.out.trans (hB3.mono (by have := hBB; omega))); clear hB3
      go_wp2_with fail
      refine (specNext_any B b 3 w3 (by omega) HS3.out).mono ?_; rintro e w4 ⟨x4, rfl, hx4, _, hS4, hg4⟩
      have hb3 := HS3.out.lt
      have HS4 := Lib.hid hS4; have HB4 := Lib.hid (HB3.out.trans (grown_below hg4 hbB (by omega))); have hb4 := hS4.lt; clear hS4 hg4 hx4
      by_cases h0 : x4 = 0
      · have e0 : (x4 == 0) = true := beq_iff_eq.2 h0
        clear h0
        go_wp2_with fail
        refine (specDamage_any B b t w4 (by have := HTS.out; omega) HS4.out).mono ?_; rintro e w5 ⟨s, rfl, hs, _, hg5⟩
        have HZ := Lib.hid (show s.size ≤ 1000 by have := HTS.out; omega)
        have HB5 := Lib.hid (HB4.out.trans (grown_below hg5 hbB (by omega))); clear hg5 hs
        go_wp2_with fail
        go_ret
        exact ⟨s, rfl, HZ.out, by rw [← hBB]; exact HB5.out⟩
      · have e0 : (x4 == 0) = false := beq_eq_false_iff_ne.2 h0
        clear h0
        go_wp2_with fail
        go_ret
        exact ⟨t, rfl, by have := HTS.out; omega, by rw [← hBB]; exact HB4.out⟩

end Go.Proofs.YtfadmlgdabamhaaDoor
