/- Contracts: spec.l01DrawValue draws a number, spec.l01DrawList a list of numbers. -/
import Derived.Test.YtfadmlgdabamhaaDoorChecked
import Derived.Test.YtfadmlgdabamhaaDoorPure6
import Derived.Test.YtfadmlgdabamhaaDoorNext
import Derived.Test.YtfadmlgdabamhaaDoorPick
import Derived.Test.YtfadmlgdabamhaaDoorInfo
import Derived.WalkKit
import Derived.WalkSpells
import Derived.WalkLawsBesides
import Derived.Lib.Hide
import Derived.Deep.OwnRows
import Derived.Outline
namespace Go.Proofs.YtfadmlgdabamhaaDoor
open Go.RowKit Pure2 Pure6

set_option maxRecDepth 100000 in
set_option maxHeartbeats 800000 in
theorem specDrawValue_any (B b : Nat) (w : World) (h : Src B 78 w b) :
    Calls Tryd.prog 57 #[.pointer (some ⟨b, 0, none⟩)] w (Gave B 78 b w) := by
  have HC := Lib.hid (specNext_any B b 10 w (by omega) h); clear h
  go_enter Tryd.func57, Tryd.ntmps57
  go_wp2_with fail
  refine HC.out.mono ?_; rintro e w1 ⟨x, rfl, hx, _, hS, hg⟩
  have HS := Lib.hid hS; have HG := Lib.hid hg; clear hS hg hx
  by_cases hx0 : x = 0
  · have hx0' : (x == 0) = true := beq_iff_eq.2 hx0
    clear hx0
    go_wp2_with fail
    refine (specPick_any B b w1.heap.size [0, 1000000000000, 1000000000001, -1000000000000, -1000000000001, 1] 6 6 _ rfl (by omega) (by omega) (HS.out.alloc _) (by have := HS.out.lt; omega) (alloc_ints w1 _ _)).mono ?_
    rintro e w2 ⟨y, rfl, _, hS2, hg2⟩
    have HS2 := Lib.hid hS2; have HG2 := Lib.hid (grown_trans (grown_trans HG.out (grown_alloc _ _ _)) hg2); clear hS2 hg2
    go_wp2_with fail
    go_ret
    exact ⟨y, rfl, HS2.out, HG2.out⟩
  · have hx0' : (x == 0) = false := beq_eq_false_iff_ne.2 hx0
    clear hx0
    go_wp2_with fail
    refine (specNext_any B b 41 w1 (by omega) HS.out).mono ?_; rintro e w2 ⟨x2, rfl, hx2, _, hS2, hg2⟩
    obtain ⟨l2, u2⟩ := hx2 (by omega)
    have HS2 := Lib.hid hS2; have HG2 := Lib.hid (grown_trans HG.out hg2); clear hS2 hg2 hx2
    go_wp2_with fail
    refine (specNext_any B b 2001 w2 (by omega) HS2.out).mono ?_; rintro e w3 ⟨x3, rfl, hx3, _, hS3, hg3⟩
    obtain ⟨l3, u3⟩ := hx3 (by omega)
    have HS3 := Lib.hid hS3; have HG3 := Lib.hid (grown_trans HG2.out hg3); clear hS3 hg3 hx3
    go_wp2_with fail
    refine (specNext_any B b 2000000001 w3 (by omega) HS3.out).mono ?_; rintro e w4 ⟨x4, rfl, hx4, _, hS4, hg4⟩
    obtain ⟨l4, u4⟩ := hx4 (by omega)
    have HS4 := Lib.hid hS4; have HG4 := Lib.hid (grown_trans HG3.out hg4); clear hS4 hg4 hx4
    go_wp2_with fail
    refine (specPick_any B b w4.heap.size [x2 - 20, x3 - 1000, x4 - 1000000000] 3 3 _ rfl (by omega) (by omega) (HS4.out.alloc _) (by have := HS4.out.lt; omega) (alloc_ints w4 _ _)).mono ?_
    rintro e w5 ⟨y, rfl, _, hS5, hg5⟩
    have HS5 := Lib.hid hS5; have HG5 := Lib.hid (grown_trans (grown_trans HG4.out (grown_alloc _ _ _)) hg5); clear hS5 hg5
    go_wp2_with fail
    go_ret
    exact ⟨y, rfl, HS5.out, HG5.out⟩

/-- a list of at most 61 numbers is drawn; below block B nothing has turned -/
def DrewInts (B : Nat) (w : World) (e : Ending) (w' : World) : Prop := ∃ a cap zs, e = .returned (.slice a zs.length cap) ∧ zs.length ≤ cap ∧ zs.length ≤ 61 ∧ IntsAt w' a zs ∧ Below B w w'

theorem ret_val {u v : Value} (h : u = v) : Ending.returned u = .returned v := by rw [h]
theorem made_ints (w : World) (n : Nat) (T : TypeId) : IntsAt (w.alloc (.cells (madeCells #[.int .i64 0] n) T)) (some ⟨w.heap.size, 0, none⟩) (List.replicate n 0) :=
  .inr ⟨_, 0, rfl, fun i x hx => by
    obtain ⟨hi, hx⟩ := List.getElem?_eq_some_iff.1 hx
    rw [List.length_replicate] at hi
    rw [List.getElem_replicate] at hx
    subst hx
    rw [Nat.zero_add]; exact (World.rowIs_made w (.int .i64 0) n T).cell hi⟩
theorem owns_kept {w w' : World} {base e n b : Nat} {v : Value} {xs : List Value} (h : w.ownsRow base e 1 v n xs) (hg : w.grownBy w' (some b)) (hb : b < base) : w'.ownsRow base e 1 v n xs :=
  h.kept hg (by
    cases hv : v.ownBlock with
    | none => exact .inl rfl
    | some g => refine .inr ?_; intro e; cases e; have := h.lt _ hv; omega)
theorem owns_snocI {w : World} {base e : Nat} {v : Value} {zs : List Int} {x : Int} (h : w.ownsRow base e 1 v (zs.length + 1) (zs.map (Value.int .i64) ++ [Value.int .i64 x])) :
    w.ownsRow base e 1 v (zs ++ [x]).length ((zs ++ [x]).map (Value.int .i64)) := by
  rw [List.length_append, List.map_append]; exact h

set_option maxRecDepth 100000 in
set_option maxHeartbeats 1000000 in
theorem specDrawList_any (B b : Nat) (w : World) (h : Src B 78 w b) :
    Calls Tryd.prog 49 #[.pointer (some ⟨b, 0, none⟩)] w (DrewInts B w) := by
  obtain ⟨i0, hi, hz0, hz1, hz2⟩ := info_parts Tryd.info_i64
  have hmk0 : ∀ W : World, (Instr.makeSlice 32 (.int .i64 60) (.int .i64 60)).run Tryd.prog W = .ok (.slice (some ⟨W.heap.size, 0, none⟩) 60 60) (W.alloc (.cells (madeCells #[.int .i64 0] 60) 2)) := fun W => run_make_row' (P := Tryd.prog) 32 2 (.int .i64 0) 8 Tryd.underlying32 Tryd.info_i64 rfl .i64 .i64 60 (by omega) (by omega) W
  have hmk1 : ∀ W : World, (Instr.makeSlice 32 (.int .i64 61) (.int .i64 61)).run Tryd.prog W = .ok (.slice (some ⟨W.heap.size, 0, none⟩) 61 61) (W.alloc (.cells (madeCells #[.int .i64 0] 61) 2)) := fun W => run_make_row' (P := Tryd.prog) 32 2 (.int .i64 0) 8 Tryd.underlying32 Tryd.info_i64 rfl .i64 .i64 61 (by omega) (by omega) W
  have hbB := h.base
  have hbw := h.lt
  have HC := Lib.hid (specNext_any B b 6 (w.alloc (.cells #[] 2)) (by omega) (h.alloc _)); clear h
  go_enter Tryd.func49, Tryd.ntmps49
  go_wp2_with fail
  refine HC.out.mono ?_; rintro e w1 ⟨x, rfl, hx, _, hS, hg⟩
  obtain ⟨l1, u1⟩ := hx (by omega)
  have HS := Lib.hid hS
  have HB := Lib.hid (((Below.refl B w).alloc (by omega) (.cells #[] 2)).trans (grown_below hg hbB (by simp; omega)))
  have HO := Lib.hid (owns_kept (World.ownsRow_lit (base := b + 1) (size := 1) (e := 2) w #[] 0 (by omega) (by decide) rfl) hg (by omega))
  obtain ⟨n0, rfl⟩ := Int.eq_ofNat_of_zero_le l1
  clear hS hg hx l1
  go_wp2_with fail
  go_loopw [3, 4] (fun v i wr => ∃ (zs : List Int) (m : Nat), i = .int .i64 m ∧ zs.length + m ≤ 5 ∧ wr.ownsRow (b + 1) 2 1 v zs.length (zs.map (Value.int .i64)) ∧ Src B 78 wr b ∧ Below B w wr) (fun _ i _ => (intOf i).toNat)
  case atStart => exact ⟨[], n0, rfl, by simp; omega, HO.out, HS.out, HB.out⟩
  case round =>
    obtain ⟨zs, m, rfl, hm, ho, hS, hB⟩ := hrel
    have HO := Lib.hid ho; have HS := Lib.hid hS; have HB := Lib.hid hB
    have hbr := hS.lt
    clear ho hS hB HC
    by_cases hm0 : 0 < m
    · go_wp2_with fail
      refine (specNext_any B b 200 wr (by omega) HS.out).mono ?_; rintro e w2 ⟨x2, rfl, hx2, _, hS2, hg2⟩
      obtain ⟨l2, u2⟩ := hx2 (by omega)
      have HO2 := Lib.hid (owns_kept HO.out hg2 (by omega))
      have HS2 := Lib.hid hS2; have HB2 := Lib.hid (HB.out.trans (grown_below hg2 hbB (by omega))); clear hS2 hg2 hx2
      go_wp2_with fail
      refine (specDrawValue_any B b w2 HS2.out).mono ?_; rintro e w3 ⟨x3, rfl, hS3, hg3⟩
      have HO3 := Lib.hid (owns_kept HO2.out hg3 (by omega))
      have HS3 := Lib.hid hS3; have HB3 := Lib.hid (HB2.out.trans (grown_below hg3 hbB (by have := HS2.out.lt; omega))); clear hS3 hg3
      go_wp2_with fail
      refine (specPick_any B b w3.heap.size [x2 - 100, x3] 2 2 _ rfl (by omega) (by omega) (HS3.out.alloc _) (by have := HS3.out.lt; omega) (alloc_ints w3 _ _)).mono ?_
      rintro e w4 ⟨y, rfl, _, hS4, hg4⟩
      have hbw4 := hS4.lt
      have HS4 := Lib.hid hS4
      have HB4 := Lib.hid ((HB3.out.alloc (by have := HS3.out.lt; omega) _).trans (grown_below hg4 hbB (by have := HS3.out.lt; simp; omega)))
      have hown := owns_kept (HO3.out.alloc _) hg4 (by omega)
      clear hS4 hg4
      go_wp2_with (at_builtin; refine wpList_append_own _ rfl _ _ 32 rfl (b + 1) 2 i0 (.int .i64 0) 1 8 Tryd.underlying32 hi hz0 hz1 hz2 rfl (by decide) _ _ _ rfl (hown.alloc _) ⟨w4.heap.size, 0, none⟩ 1 1 [.int .i64 y] rfl rfl ?c1 ?c2 ?c3 ?c4 ?c5 ?_)
      case c1 => exact cell_one_new _ _ _
      case c2 => intro u hu; simp at hu; subst hu; rfl
      case c3 => unfold maxLen; omega
      case c4 => omega
      case c5 => simp; omega
      intro v' w5 hown' hgrow _
      have HO5 := Lib.hid (owns_snocI hown')
      have HG5 := Lib.hid (show (w4.alloc (.cells #[.int .i64 y] 2)).grownBy w5 _ from hgrow)
      have hne5 := fun k hk => (hown.lt k hk).1
      have HS5 := Lib.hid ((HS4.out.alloc (.cells #[.int .i64 y] 2)).kept (HG5.out.block b (by simp; omega) (by intro e; have := hne5 b e.symm; omega))
        ((Below.refl B _).grown HG5.out (by simp; omega) (fun k hk => by have := hne5 k hk; omega)))
      have HB5 := Lib.hid ((HB4.out.alloc (by omega) (.cells #[.int .i64 y] 2)).grown HG5.out (by simp; omega) (fun k hk => by have := hne5 k hk; omega))
      clear hown hown' hgrow hne5
      go_wp2_with fail
      go_roundw
      case rel => exact ⟨zs ++ [y], m - 1, by go_num, by simp; omega, HO5.out, HS5.out, HB5.out⟩
      case measure => simp [intOf]; omega
    · go_wp2_with fail
      refine (specNext_any B b 24 wr (by omega) HS.out).mono ?_; rintro e w2 ⟨x2, rfl, hx2, _, hS2, hg2⟩
      have HO2 := Lib.hid (owns_kept HO.out hg2 (by omega))
      have HS2 := Lib.hid hS2; have HB2 := Lib.hid (HB.out.trans (grown_below hg2 hbB (by omega))); clear hS2 hg2 hx2
      by_cases hx0 : x2 = 0
      · have hx0' : (x2 == 0) = true := beq_iff_eq.2 hx0
        clear hx0
        go_wp2_with fail
        refine (specNext_any B b 2 w2 (by omega) HS2.out).mono ?_; rintro e w3 ⟨x3, rfl, hx3, _, hS3, hg3⟩
        obtain ⟨l3, u3⟩ := hx3 (by omega)
        have HB3 := Lib.hid (HB2.out.trans (grown_below hg3 hbB (by have := HS2.out.lt; omega)))
        have hb3 := hS3.lt
        clear hS3 hg3 hx3
        by_cases h1 : x3 = 0
        · subst h1
          go_wp2_with fail
          go_ret
          exact ⟨some ⟨w3.heap.size, 0, none⟩, 60, List.replicate 60 0, ret_val (by rw [List.length_replicate]; rfl), by simp, by simp, made_ints w3 60 _, HB3.out.alloc (by omega) _⟩
        · obtain rfl : x3 = 1 := by omega
          clear h1
          go_wp2_with fail
          go_ret
          exact ⟨some ⟨w3.heap.size, 0, none⟩, 61, List.replicate 61 0, ret_val (by rw [List.length_replicate]; rfl), by simp, by simp, made_ints w3 61 _, HB3.out.alloc (by omega) _⟩
      · have hx0' : (x2 == 0) = false := beq_eq_false_iff_ne.2 hx0
        clear hx0
        obtain ⟨a, cap, rfl, hcap, hI⟩ := intsAt_of_owns HO2.out
        have HI := Lib.hid hI; clear hI
        go_wp2_with fail
        go_ret
        exact ⟨a, cap, zs, rfl, hcap, by omega, HI.out, HB2.out⟩

end Go.Proofs.YtfadmlgdabamhaaDoor
