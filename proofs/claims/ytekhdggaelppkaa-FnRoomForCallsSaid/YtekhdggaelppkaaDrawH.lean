/- Contracts: spec.l02Holidays draws a list of at most 41 numbers, spec.l02Day a number. -/
import Derived.Test.YtekhdggaelppkaaChecked
import Derived.Test.YtekhdggaelppkaaBase0
import Derived.Test.YtekhdggaelppkaaNext
import Derived.Test.YtekhdggaelppkaaPick
import Derived.Test.YtekhdggaelppkaaInfo
import Derived.Test.YtekhdggaelppkaaOwnK
import Derived.WalkKit
import Derived.WalkSpells
import Derived.WalkLawsBesides
import Derived.Lib.Hide
import Derived.Deep.OwnRows
import Derived.Outline
namespace Go.Proofs.Ytekhdggaelppkaa
open Go.RowKit Pure2 Pure6

/-- a day is drawn, or a number near the bounds -/
def GaveD (B : Nat) (b : Nat) (w : World) (e : Ending) (w' : World) : Prop := ∃ x : Int, e = .returned (.int .i64 x) ∧ -1 ≤ x ∧ x ≤ 20001 ∧ Src B 93 w' b ∧ Below B w w' ∧ ∀ base, b < base → base ≤ w.heap.size → ∀ (a : Option Addr) zs, (∀ x, a = some x → base ≤ x.block) → IntsAt w a zs → IntsAt w' a zs

theorem six_bd {x : Int} (h : x ∈ [(0 : Int), 20000, 19999, 20001, -1, 5]) : -1 ≤ x ∧ x ≤ 20001 := by
  simp only [List.mem_cons, List.not_mem_nil, or_false] at h; omega

set_option maxHeartbeats 400000 in
theorem specDay_any (B b : Nat) (w : World) (h : Src B 93 w b) :
    Calls Try.prog 63 #[.pointer (some ⟨b, 0, none⟩)] w (GaveD B b w) := by
  have hbB := h.base
  have hbw := h.lt
  have HC := Lib.hid (specNext_any B b 16 w (by omega) h); clear h
  go_enter Try.func63, Try.ntmps63
  go_wp2_with fail
  refine HC.out.mono ?_; rintro e w1 ⟨x, rfl, hx, _, hS, hg⟩
  have HS := Lib.hid hS; have HG := Lib.hid hg; clear hS hg hx
  by_cases hx0 : x = 0
  · have hx0' : (x == 0) = true := beq_iff_eq.2 hx0
    clear hx0
    go_wp2_with fail
    refine (specPick_any B b w1.heap.size [0, 20000, 19999, 20001, -1, 5] 6 6 _ rfl (by omega) (by omega) (HS.out.alloc _) (by have := HS.out.lt; omega) (alloc_ints w1 _ _)).mono ?_
    rintro e w2 ⟨y, rfl, hy, hS2, hg2⟩
    have HS2 := Lib.hid hS2; have HG2 := Lib.hid (grown_trans (grown_trans HG.out (grown_alloc _ _ _)) hg2); have HY := Lib.hid (six_bd hy); clear hS2 hg2 hy
    go_wp2_with fail
    go_ret
    exact ⟨y, rfl, HY.out.1, HY.out.2, HS2.out, grown_below HG2.out hbB (by omega), fun base hb _ a zs ha hI => ints_keep hI ha HG2.out hb⟩
  · have hx0' : (x == 0) = false := beq_eq_false_iff_ne.2 hx0
    clear hx0
    go_wp2_with fail
    refine (specNext_any B b 250 w1 (by omega) HS.out).mono ?_; rintro e w2 ⟨x2, rfl, hx2, _, hS2, hg2⟩
    obtain ⟨l2, u2⟩ := hx2 (by omega)
    have HS2 := Lib.hid hS2; have HG2 := Lib.hid (grown_trans HG.out hg2); clear hS2 hg2 hx2
    go_wp2_with fail
    go_ret
    exact ⟨_, rfl, by omega, by omega, HS2.out, grown_below HG2.out hbB (by omega), fun base hb _ a zs ha hI => ints_keep hI ha HG2.out hb⟩

/-- a list of at most 41 numbers is drawn; below block B nothing has turned -/
def DrewH (B : Nat) (b : Nat) (w : World) (e : Ending) (w' : World) : Prop :=
  ∃ a cap zs, e = .returned (.slice a zs.length cap) ∧ zs.length ≤ 41 ∧ IntsAt w' a zs ∧ (∀ x, a = some x → b + 1 ≤ x.block) ∧ Src B 93 w' b ∧ Below B w w'
/-- the slots of the first loop -/
def HolAt (B : Nat) (b : Nat) (w : World) (v day n : Value) (wr : World) : Prop :=
  ∃ (zs : List Int) (y : Int) (m : Nat), day = .int .i64 y ∧ n = .int .i64 m ∧ zs.length + m ≤ 7 ∧ 0 ≤ y ∧ y ≤ 160 + 41 * (zs.length : Int) ∧ wr.ownsRow (b + 1) 2 1 v zs.length (zs.map (Value.int .i64)) ∧ Src B 93 wr b ∧ Below B w wr
/-- the slot of the second loop -/
def HolAt2 (B : Nat) (b : Nat) (w : World) (v : Value) (wr : World) : Prop :=
  ∃ (a : Option Addr) (cap : Nat) (zs : List Int), v = .slice a zs.length cap ∧ zs.length ≤ 41 ∧ wr.ownsRow (b + 1) 2 1 (.slice a zs.length cap) zs.length (zs.map (Value.int .i64)) ∧ Src B 93 wr b ∧ Below B w wr
def lenV : Value → Nat
  | .slice _ n _ => n
  | _ => 0
theorem three_bd {x p q : Int} (h : x ∈ [0, p, q]) (hp : 0 ≤ p ∧ p < 5) (hq : 0 ≤ q ∧ q < 40) : 0 ≤ x ∧ x < 40 := by
  simp only [List.mem_cons, List.not_mem_nil, or_false] at h; omega
theorem drewH_of {B b : Nat} {w wr : World} {v : Value} {zs : List Int} (ho : wr.ownsRow (b + 1) 2 1 v zs.length (zs.map (Value.int .i64))) (hl : zs.length ≤ 41) (hS : Src B 93 wr b) (hB : Below B w wr) :
    DrewH B b w (.returned v) wr := by
  obtain ⟨a, cap, rfl, _, h2, h3⟩ := owns_ints ho
  exact ⟨a, cap, zs, rfl, hl, h2, h3, hS, hB⟩

set_option maxRecDepth 100000 in
set_option maxHeartbeats 2000000 in
theorem specHolidays_any (B b : Nat) (w : World) (h : Src B 93 w b) :
    Calls Try.prog 58 #[.pointer (some ⟨b, 0, none⟩)] w (DrewH B b w) := by
  obtain ⟨i0, hi, hz0, hz1, hz2⟩ := info_parts Try.info_i64
  have hbB := h.base
  have hbw := h.lt
  have HC := Lib.hid (specNext_any B b 60 (w.alloc (.cells #[] 2)) (by omega) (h.alloc _)); clear h
  go_enter Try.func58, Try.ntmps58
  go_wp2_with fail
  refine HC.out.mono ?_; rintro e w1 ⟨x, rfl, hx, _, hS, hg⟩
  obtain ⟨l1, u1⟩ := hx (by omega)
  have HS := Lib.hid hS
  have HB := Lib.hid (((Below.refl B w).alloc (by omega) (.cells #[] 2)).trans (grown_below hg hbB (by simp; omega)))
  have HO := Lib.hid (owns_keep (World.ownsRow_lit (base := b + 1) (size := 1) (e := 2) w #[] 0 (by omega) (by decide) rfl) hg (by omega))
  clear hS hg hx HC
  go_wp2_with fail
  refine (specNext_any B b 8 w1 (by omega) HS.out).mono ?_; rintro e w2 ⟨x2, rfl, hx2, _, hS2, hg2⟩
  obtain ⟨l2, u2⟩ := hx2 (by omega)
  obtain ⟨n0, rfl⟩ := Int.eq_ofNat_of_zero_le l2
  have HO2 := Lib.hid (owns_keep HO.out hg2 (by omega))
  have HS2 := Lib.hid hS2; have HB2 := Lib.hid (HB.out.trans (grown_below hg2 hbB (by have := HS.out.lt; omega))); clear hS2 hg2 hx2 l2
  go_wp2_with fail
  go_loopw [3, 4, 5] (fun v day n wr => HolAt B b w v day n wr) (fun _ _ n _ => (intOf n).toNat)
  case atStart => exact ⟨[], _, n0, rfl, rfl, by simp; omega, by omega, by simp; omega, HO2.out, HS2.out, HB2.out⟩
  case round =>
    obtain ⟨zs, y, m, rfl, rfl, hm, hy0, hy1, ho, hS, hB⟩ := hrel
    have HO := Lib.hid ho; have HS := Lib.hid hS; have HB := Lib.hid hB
    have hbr := hS.lt
    have hzl : (zs.length : Int) ≤ 7 := by omega
    clear ho hS hB HO2 HS2 HB2
    by_cases hm0 : 0 < m
    · have hown := HO.out.alloc (.cells #[.int .i64 y] 2)
      go_wp2_with (at_builtin; refine wpList_append_own _ rfl _ _ 24 rfl (b + 1) 2 i0 (.int .i64 0) 1 8 Try.underlying24 hi hz0 hz1 hz2 rfl (by decide) _ _ _ rfl hown ⟨wr.heap.size, 0, none⟩ 1 1 [.int .i64 y] rfl rfl ?c1 ?c2 ?c3 ?c4 ?c5 ?_)
      case c1 => exact cell_one_new _ _ _
      case c2 => intro u hu; simp at hu; subst hu; rfl
      case c3 => unfold maxLen; omega
      case c4 => omega
      case c5 => simp; omega
      intro v' w5 hown' hgrow _
      obtain ⟨ho5, hS5, hB5⟩ := append_after (HS.out.alloc _) (HB.out.alloc (by omega) _) hown hown' hgrow
      have HO5 := Lib.hid ho5; have HS5 := Lib.hid hS5; have HB5 := Lib.hid hB5
      clear hown hown' hgrow ho5 hS5 hB5
      go_wp2_with fail
      refine (specNext_any B b 5 w5 (by omega) HS5.out).mono ?_; rintro e w6 ⟨x6, rfl, hx6, _, hS6, hg6⟩
      have H6 := Lib.hid (hx6 (by omega))
      have HO6 := Lib.hid (owns_keep HO5.out hg6 (by omega))
      have HS6 := Lib.hid hS6; have HB6 := Lib.hid (HB5.out.trans (grown_below hg6 hbB (by have := HS5.out.lt; omega))); clear hS6 hg6 hx6
      go_wp2_with fail
      refine (specNext_any B b 40 w6 (by omega) HS6.out).mono ?_; rintro e w7 ⟨x7, rfl, hx7, _, hS7, hg7⟩
      have H7 := Lib.hid (hx7 (by omega))
      have HO7 := Lib.hid (owns_keep HO6.out hg7 (by omega))
      have HS7 := Lib.hid hS7; have HB7 := Lib.hid (HB6.out.trans (grown_below hg7 hbB (by have := HS6.out.lt; omega))); clear hS7 hg7 hx7
      go_wp2_with fail
      refine (specPick_any B b w7.heap.size [0, x6, x7] 3 3 _ rfl (by omega) (by omega) (HS7.out.alloc _) (by have := HS7.out.lt; omega) (alloc_ints w7 _ _)).mono ?_
      rintro e w8 ⟨x8, rfl, hx8, hS8, hg8⟩
      obtain ⟨h80, h81⟩ := three_bd hx8 H6.out H7.out
      have HS8 := Lib.hid hS8
      have HO8 := Lib.hid (owns_keep (HO7.out.alloc _) hg8 (by omega))
      have HB8 := Lib.hid ((HB7.out.alloc (by have := HS7.out.lt; omega) _).trans (grown_below hg8 hbB (by have := HS7.out.lt; simp; omega)))
      clear hS8 hg8 hx8 H6 H7
      go_wp2_with fail
      go_roundw
      case rel => exact ⟨zs ++ [y], _, m - 1, rfl, by go_num, by simp; omega, by omega, by simp; omega, HO8.out, HS8.out, HB8.out⟩
      case measure => simp [intOf]; omega
    · go_wp2_with fail
      refine (specNext_any B b 24 wr (by omega) HS.out).mono ?_; rintro e w2 ⟨x2, rfl, hx2, _, hS2, hg2⟩
      have HO2 := Lib.hid (owns_keep HO.out hg2 (by omega))
      have hb2 := hS2.lt
      have HS2 := Lib.hid hS2; have HB2 := Lib.hid (HB.out.trans (grown_below hg2 hbB (by omega))); clear hS2 hg2 hx2 HO HS HB
      by_cases hx0 : x2 = 0
      · have hx0' : (x2 == 0) = true := beq_iff_eq.2 hx0
        clear hx0
        go_wp2_with fail
        refine (specPick_any B b w2.heap.size [y - 60, 20000, 20001, -1] 4 4 _ rfl (by omega) (by omega) (HS2.out.alloc _) (by omega) (alloc_ints w2 _ _)).mono ?_
        rintro e w3 ⟨x3, rfl, hx3, hS3, hg3⟩
        have hb3 := hS3.lt
        have HS3 := Lib.hid hS3
        have HO3 := Lib.hid (owns_keep (HO2.out.alloc _) hg3 (by omega))
        have HB3 := Lib.hid ((HB2.out.alloc (by omega) _).trans (grown_below hg3 hbB (by simp; omega)))
        have hown := HO3.out.alloc (.cells #[.int .i64 x3] 2)
        clear hS3 hg3 hx3
        go_wp2_with (at_builtin; refine wpList_append_own _ rfl _ _ 24 rfl (b + 1) 2 i0 (.int .i64 0) 1 8 Try.underlying24 hi hz0 hz1 hz2 rfl (by decide) _ _ _ rfl hown ⟨w3.heap.size, 0, none⟩ 1 1 [.int .i64 x3] rfl rfl ?d1 ?d2 ?d3 ?d4 ?d5 ?_)
        case d1 => exact cell_one_new _ _ _
        case d2 => intro u hu; simp at hu; subst hu; rfl
        case d3 => unfold maxLen; omega
        case d4 => omega
        case d5 => simp; omega
        intro v' w5 hown' hgrow _
        obtain ⟨ho5, hS5, hB5⟩ := append_after (HS3.out.alloc _) (HB3.out.alloc (by omega) _) hown hown' hgrow
        have HR := Lib.hid (drewH_of ho5 (by simp; omega) hS5 hB5)
        clear hown hown' hgrow ho5 hS5 hB5
        go_wp2_with fail
        go_ret
        exact HR.out
      · have hx0' : (x2 == 0) = false := beq_eq_false_iff_ne.2 hx0
        clear hx0
        by_cases hx1 : x2 = 1
        · have hx1' : (x2 == 1) = true := beq_iff_eq.2 hx1
          clear hx1
          have HO3 := Lib.hid (World.ownsRow_lit (base := b + 1) (size := 1) (e := 2) w2 #[] 0 (by omega) (by decide) rfl)
          have HS3 := Lib.hid (HS2.out.alloc (.cells #[] 2)); have HB3 := Lib.hid (HB2.out.alloc (by omega) (.cells #[] 2))
          clear HO2 HS2 HB2
          go_wp2_with fail
          go_loopw [3] (fun v wr => HolAt2 B b w v wr) (fun v _ => 41 - lenV v)
          case atStart => exact ⟨_, _, [], rfl, by simp, HO3.out, HS3.out, HB3.out⟩
          case round =>
            obtain ⟨a, cap, ys, rfl, hyl, ho, hS, hB⟩ := hrel
            have HO := Lib.hid ho; have HS := Lib.hid hS; have HB := Lib.hid hB
            have hbr := hS.lt
            clear ho hS hB HO3 HS3 HB3
            go_wp2_with fail
            refine (specNext_any B b 2 _ (by omega) HS.out).mono ?_; rintro e w4 ⟨x4, rfl, hx4, _, hS4, hg4⟩
            obtain ⟨l4, u4⟩ := hx4 (by omega)
            have hb4 := hS4.lt
            have HS4 := Lib.hid hS4
            have HO4 := Lib.hid (owns_keep HO.out hg4 (by omega))
            have HB4 := Lib.hid (HB.out.trans (grown_below hg4 hbB (by omega)))
            clear hS4 hg4 hx4 HO HS HB
            by_cases hlt : (ys.length : Int) < 40 + x4
            · have hown := HO4.out.alloc (.cells #[.int .i64 (150 + (ys.length : Int))] 2)
              go_wp2_with (at_builtin; refine wpList_append_own _ rfl _ _ 24 rfl (b + 1) 2 i0 (.int .i64 0) 1 8 Try.underlying24 hi hz0 hz1 hz2 rfl (by decide) _ _ _ rfl hown ⟨w4.heap.size, 0, none⟩ 1 1 [.int .i64 (150 + (ys.length : Int))] rfl rfl ?g1 ?g2 ?g3 ?g4 ?g5 ?_)
              case g1 => exact cell_one_new _ _ _
              case g2 => intro u hu; simp at hu; subst hu; rfl
              case g3 => unfold maxLen; omega
              case g4 => omega
              case g5 => simp; omega
              intro v' w5 hown' hgrow _
              obtain ⟨ho5, hS5, hB5⟩ := append_after (HS4.out.alloc _) (HB4.out.alloc (by omega) _) hown hown' hgrow
              obtain ⟨a5, cap5, rfl, _⟩ := owns_ints ho5
              have HO5 := Lib.hid ho5; have HS5 := Lib.hid hS5; have HB5 := Lib.hid hB5
              clear hown hown' hgrow ho5 hS5 hB5
              go_wp2_with fail
              go_roundw
              case rel => exact ⟨a5, cap5, ys ++ [150 + (ys.length : Int)], by simp, by simp; omega, HO5.out, HS5.out, HB5.out⟩
              case measure => simp [lenV]; omega
            · have HR := Lib.hid (drewH_of HO4.out hyl HS4.out HB4.out)
              go_wp2_with fail
              go_ret
              exact HR.out
        · have hx1' : (x2 == 1) = false := beq_eq_false_iff_ne.2 hx1
          clear hx1
          have HR := Lib.hid (drewH_of HO2.out (by omega) HS2.out HB2.out)
          go_wp2_with fail
          go_ret
          exact HR.out

end Go.Proofs.Ytekhdggaelppkaa
