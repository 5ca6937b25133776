/- Contracts: spec.l01DrawWords, spec.DrawWordsText and spec.DrawReadWords draw words and a text of words. -/
import Derived.Test.YtfadmlgdabamhaaDoorChecked
import Derived.Test.YtfadmlgdabamhaaDoorPure3
import Derived.Test.YtfadmlgdabamhaaDoorPure6
import Derived.Test.YtfadmlgdabamhaaDoorBase
import Derived.Test.YtfadmlgdabamhaaDoorInfo
import Derived.Test.YtfadmlgdabamhaaDoorFrom
import Derived.Test.YtfadmlgdabamhaaDoorSplit
import Derived.Test.YtfadmlgdabamhaaDoorJoinW
import Derived.Test.YtfadmlgdabamhaaDoorDrawV
import Derived.Test.YtfadmlgdabamhaaDoorDrawW
import Derived.Test.YtfadmlgdabamhaaDoorDrawM
import Derived.WalkKit
import Derived.WalkSpells
import Derived.WalkLawsBesides
import Derived.Lib.Hide
import Derived.Deep.OwnRows
import Derived.Outline
namespace Go.Proofs.YtfadmlgdabamhaaDoor
open Go.RowKit Pure2 Pure3 Pure6

/-- a list of at most 61 short texts is handed out -/
def GaveStrs (B b : Nat) (w : World) (e : Ending) (w' : World) : Prop := ∃ a cap ss, e = .returned (.slice a ss.length cap) ∧ ss.length ≤ cap ∧ ss.length ≤ 61 ∧ (∀ x ∈ ss, x.size ≤ 20) ∧ StrsAt w' a ss ∧ Src B 78 w' b ∧ Below B w w'
/-- a list of at most 61 short texts is drawn -/
def DrewStrs (w : World) (e : Ending) (w' : World) : Prop := ∃ a cap ss, e = .returned (.slice a ss.length cap) ∧ ss.length ≤ cap ∧ ss.length ≤ 61 ∧ (∀ x ∈ ss, x.size ≤ 20) ∧ StrsAt w' a ss ∧ Below w.heap.size w w'
def lenOf : Value → Nat
  | .slice _ n _ => n
  | _ => 0
theorem szs_small {ss : List ByteArray} (h : ∀ x ∈ ss, x.size ≤ 20) : szs ss ≤ 20 * ss.length := by
  induction ss with
  | nil => simp [szs]
  | cons x r ih =>
    have h1 := h x List.mem_cons_self
    have h2 := ih (fun y hy => h y (List.mem_cons_of_mem _ hy))
    simp only [szs, List.length_cons]; omega
theorem small_snoc {ss : List ByteArray} {x : ByteArray} (h : ∀ y ∈ ss, y.size ≤ 20) (hx : x.size ≤ 20) : ∀ y ∈ ss ++ [x], y.size ≤ 20 := by
  intro y hy
  rw [List.mem_append, List.mem_singleton] at hy
  rcases hy with hy | rfl
  · exact h y hy
  · exact hx

set_option maxRecDepth 100000 in
set_option maxHeartbeats 1000000 in
theorem specDrawWords_any (B b : Nat) (w : World) (h : Src B 78 w b) :
    Calls Tryd.prog 39 #[.pointer (some ⟨b, 0, none⟩)] w (GaveStrs B b w) := by
  obtain ⟨i0, hi, hz0, hz1, hz2⟩ := info_parts Tryd.info_str
  have hbB := h.base
  have hbw := h.lt
  have HC := Lib.hid (specNext_any B b 6 (w.alloc (.cells #[] 9)) (by omega) (h.alloc _)); clear h
  go_enter Tryd.func39, Tryd.ntmps39
  go_wp2_with fail
  refine HC.out.mono ?_; rintro e w1 ⟨x, rfl, hx, _, hS, hg⟩
  obtain ⟨l1, u1⟩ := hx (by omega)
  have HS := Lib.hid hS
  have HB := Lib.hid (((Below.refl B w).alloc (by omega) (.cells #[] 9)).trans (grown_below hg hbB (by simp; omega)))
  have HO := Lib.hid (owns_kept (World.ownsRow_lit (base := b + 1) (size := 1) (e := 9) w #[] 0 (by omega) (by decide) rfl) hg (by omega))
  obtain ⟨n0, rfl⟩ := Int.eq_ofNat_of_zero_le l1
  clear hS hg hx l1
  go_wp2_with fail
  go_loopw [3, 4] (fun v i wr => ∃ (ss : List ByteArray) (m : Nat), i = .int .i64 m ∧ ss.length + m ≤ 5 ∧ (∀ x ∈ ss, x.size ≤ 20) ∧ wr.ownsRow (b + 1) 9 1 v ss.length (ss.map Value.string) ∧ Src B 78 wr b ∧ Below B w wr) (fun _ i _ => (intOf i).toNat)
  case atStart => exact ⟨[], n0, rfl, by simp; omega, by simp, HO.out, HS.out, HB.out⟩
  case round =>
    obtain ⟨ss, m, rfl, hm, hz, ho, hS, hB⟩ := hrel
    have HO := Lib.hid ho; have HS := Lib.hid hS; have HB := Lib.hid hB; have HZ := Lib.hid hz
    have hbr := hS.lt
    clear ho hS hB HC hz
    by_cases hm0 : 0 < m
    · go_wp2_with fail
      refine (specDrawWord_any B b wr HS.out).mono ?_; rintro e w4 ⟨y, rfl, hy, hS4, hg4⟩
      have hown := owns_kept HO.out hg4 (by omega)
      have hbw4 := hS4.lt
      have HS4 := Lib.hid hS4; have HB4 := Lib.hid (HB.out.trans (grown_below hg4 hbB (by omega)))
      have HZ4 := Lib.hid (small_snoc HZ.out hy)
      clear hS4 hg4
      go_wp2_with (at_builtin; refine wpList_append_own _ rfl _ _ 24 rfl (b + 1) 9 i0 (.string ⟨#[]⟩) 1 16 Tryd.underlying24 hi hz0 hz1 hz2 rfl (by decide) _ _ _ rfl (hown.alloc _) ⟨w4.heap.size, 0, none⟩ 1 1 [.string y] rfl rfl ?c1 ?c2 ?c3 ?c4 ?c5 ?_)
      case c1 => exact cell_one_new _ _ _
      case c2 => intro u hu; simp at hu; subst hu; rfl
      case c3 => unfold maxLen; omega
      case c4 => omega
      case c5 => simp; omega
      intro v' w5 hown' hgrow _
      have HO5 := Lib.hid (owns_snoc hown')
      have HG5 := Lib.hid (show (w4.alloc (.cells #[.string y] 9)).grownBy w5 _ from hgrow)
      have hne5 := fun k hk => (hown.lt k hk).1
      have HS5 := Lib.hid ((HS4.out.alloc (.cells #[.string y] 9)).kept (HG5.out.block b (by simp; omega) (by intro e; have := hne5 b e.symm; omega))
        ((Below.refl B _).grown HG5.out (by simp; omega) (fun k hk => by have := hne5 k hk; omega)))
      have HB5 := Lib.hid ((HB4.out.alloc (by omega) (.cells #[.string y] 9)).grown HG5.out (by simp; omega) (fun k hk => by have := hne5 k hk; omega))
      clear hown hown' hgrow hne5
      go_wp2_with fail
      go_roundw
      case rel => exact ⟨ss ++ [y], m - 1, by go_num, by simp; omega, HZ4.out, HO5.out, HS5.out, HB5.out⟩
      case measure => simp [intOf]; omega
    · go_wp2_with fail
      refine (specNext_any B b 24 wr (by omega) HS.out).mono ?_; rintro e w2 ⟨x2, rfl, hx2, _, hS2, hg2⟩
      have HO2 := Lib.hid (owns_kept HO.out hg2 (by omega))
      have hb2 := hS2.lt
      have HS2 := Lib.hid hS2; have HB2 := Lib.hid (HB.out.trans (grown_below hg2 hbB (by omega))); clear hS2 hg2 hx2
      by_cases hx0 : x2 = 0
      · have hx0' : (x2 == 0) = true := beq_iff_eq.2 hx0
        clear hx0
        clear HO HS HB hbr
        go_wp2_with fail
        go_loopw [3] (fun v wr => ∃ (ss : List ByteArray), ss.length ≤ 61 ∧ (∀ x ∈ ss, x.size ≤ 20) ∧ wr.ownsRow (b + 1) 9 1 v ss.length (ss.map Value.string) ∧ Src B 78 wr b ∧ Below B w wr) (fun v _ => 61 - lenOf v)
        case atStart => exact ⟨ss, by omega, HZ.out, HO2.out, HS2.out, HB2.out⟩
        case round =>
          clear HO2 HS2 HB2 HZ hb2 hm
          obtain ⟨ss, hl, hz, ho, hS, hB⟩ := hrel
          have HO := Lib.hid ho; have HS := Lib.hid hS; have HB := Lib.hid hB; have HZ := Lib.hid hz
          have hbr := hS.lt
          obtain ⟨av, cv, rfl, hcv, _⟩ := strsAt_of_owns ho
          clear ho hS hB hz
          go_wp2_with fail
          refine (specNext_any B b 2 _ (by omega) HS.out).mono ?_; rintro e w4 ⟨y, rfl, hy, _, hS4, hg4⟩
          obtain ⟨ly, uy⟩ := hy (by omega)
          have hown := owns_kept HO.out hg4 (by omega)
          have hbw4 := hS4.lt
          have HS4 := Lib.hid hS4; have HB4 := Lib.hid (HB.out.trans (grown_below hg4 hbB (by omega)))
          have HZ4 := Lib.hid (small_snoc (x := ⟨#[97, 100, 97]⟩) HZ.out (by decide))
          clear hS4 hg4 hy
          by_cases hlt : (ss.length : Int) < 60 + y
          · go_wp2_with (at_builtin; refine wpList_append_own _ rfl _ _ 24 rfl (b + 1) 9 i0 (.string ⟨#[]⟩) 1 16 Tryd.underlying24 hi hz0 hz1 hz2 rfl (by decide) _ _ _ rfl (hown.alloc _) ⟨w4.heap.size, 0, none⟩ 1 1 [.string ⟨#[97, 100, 97]⟩] rfl rfl ?c1 ?c2 ?c3 ?c4 ?c5 ?_)
            case c1 => exact cell_one_new _ _ _
            case c2 => intro u hu; simp at hu; subst hu; rfl
            case c3 => unfold maxLen; omega
            case c4 => omega
            case c5 => simp; omega
            intro v' w5 hown' hgrow _
            have HO5 := Lib.hid (owns_snoc hown')
            have HL5 := Lib.hid (show lenOf v' = ss.length + 1 by obtain ⟨a5, c5, e5, _⟩ := strsAt_of_owns HO5.out; rw [e5]; show (ss ++ [_]).length = _; rw [List.length_append]; rfl)
            have HG5 := Lib.hid (show (w4.alloc (.cells #[.string ⟨#[97, 100, 97]⟩] 9)).grownBy w5 _ from hgrow)
            have hne5 := fun k hk => (hown.lt k hk).1
            have HS5 := Lib.hid ((HS4.out.alloc (.cells #[.string ⟨#[97, 100, 97]⟩] 9)).kept (HG5.out.block b (by simp; omega) (by intro e; have := hne5 b e.symm; omega))
              ((Below.refl B _).grown HG5.out (by simp; omega) (fun k hk => by have := hne5 k hk; omega)))
            have HB5 := Lib.hid ((HB4.out.alloc (by omega) (.cells #[.string ⟨#[97, 100, 97]⟩] 9)).grown HG5.out (by simp; omega) (fun k hk => by have := hne5 k hk; omega))
            clear hown hown' hgrow hne5
            go_wp2_with fail
            go_roundw
            case rel => exact ⟨ss ++ [⟨#[97, 100, 97]⟩], by simp; omega, HZ4.out, HO5.out, HS5.out, HB5.out⟩
            case measure => rw [HL5.out]; show _ < 61 - ss.length; omega
          · obtain ⟨a, cap, e, hcap, hI⟩ := strsAt_of_owns hown
            cases e
            have HI := Lib.hid hI; clear hI hown
            go_wp2_with fail
            go_ret
            exact ⟨_, _, ss, rfl, hcap, hl, HZ.out, HI.out, HS4.out, HB4.out⟩
      · have hx0' : (x2 == 0) = false := beq_eq_false_iff_ne.2 hx0
        clear hx0
        obtain ⟨a, cap, rfl, hcap, hI⟩ := strsAt_of_owns HO2.out
        have HI := Lib.hid hI; clear hI
        go_wp2_with fail
        go_ret
        exact ⟨a, cap, ss, rfl, hcap, by omega, HZ.out, HI.out, HS2.out, HB2.out⟩

set_option maxHeartbeats 400000 in
theorem specDrawWordsText_any (a : Option Addr) (len cap : Nat) (bs : List Int) (w : World) (hl : bs.length = len) (hm : len ≤ 4096) (h : BytesAt w.heap.size w a bs) :
    Calls Tryd.prog 12 #[.slice a len cap] w (DrewStrs w) := by
  have HF := Lib.hid (specFrom_any a len cap bs w hl hm h); clear h hl
  go_enter Tryd.func12, Tryd.ntmps12
  go_wp2_with fail
  refine HF.out.mono ?_; rintro e w1 ⟨b, rfl, hS, hB⟩
  have HB := Lib.hid hB
  go_wp2_with fail
  refine (specDrawWords_any w.heap.size b w1 hS).mono ?_; rintro e w2 ⟨a2, cap2, ss, rfl, hc, hl2, hz, hI, _, hB2⟩
  have HR := Lib.hid (⟨a2, cap2, ss, rfl, hc, hl2, hz, hI, HB.out.trans hB2⟩ : DrewStrs w (.returned (.slice a2 ss.length cap2)) w2)
  clear hS hB hc hz hI hB2 hl2
  go_wp2_with fail
  go_ret
  exact HR.out

set_option maxRecDepth 100000 in
set_option maxHeartbeats 800000 in
theorem specDrawReadWords_any (a : Option Addr) (len cap : Nat) (bs : List Int) (w : World) (hl : bs.length = len) (hm : len ≤ 4096) (h : BytesAt w.heap.size w a bs) :
    Calls Tryd.prog 15 #[.slice a len cap] w (DrewS 2000 w) := by
  have HF := Lib.hid (specFrom_any a len cap bs w hl hm h); clear h hl
  go_enter Tryd.func15, Tryd.ntmps15
  go_wp2_with fail
  refine HF.out.mono ?_; rintro e w1 ⟨b, rfl, hS, hB⟩
  have HB := Lib.hid hB; have HS := Lib.hid hS; have hbB := hS.base; clear hS hB
  go_wp2_with fail
  refine (specDrawWords_any w.heap.size b w1 HS.out).mono ?_; rintro e w2 ⟨a2, cap2, ss, rfl, _, hl2, hz, hI, hS2, hB2⟩
  have hsz := szs_small hz
  have h1 : comma.size = 1 := rfl
  have hjs := joinB_size ss comma
  rw [h1] at hjs
  have HI := Lib.hid hI; have HS2 := Lib.hid hS2; have HB2 := Lib.hid (HB.out.trans hB2); clear hS2 hB2 hI hz
  go_wp2_with fail
  refine (specWords_any a2 ss.length cap2 ss comma w2 rfl (by unfold maxLen; omega) HI.out (by rw [h1]; omega) (by omega)).mono ?_; rintro e w' ⟨rfl, rfl⟩
  obtain ⟨t, ht⟩ : ∃ t, t = joinB ss comma := ⟨_, rfl⟩
  rw [← ht] at hjs ⊢
  have hts : t.size ≤ 1500 := by omega
  clear ht hjs hsz h1
  go_wp2_with fail
  refine (specNext_any w.heap.size b 3 w2 (by omega) HS2.out).mono ?_; rintro e w4 ⟨x4, rfl, hx4, _, hS4, hg4⟩
  have HS4 := Lib.hid hS4; have HB4 := Lib.hid (HB2.out.trans (grown_below hg4 hbB HB2.out.size)); clear hS4 hg4 hx4
  by_cases h0 : x4 = 0
  · have e0 : (x4 == 0) = true := beq_iff_eq.2 h0
    clear h0
    go_wp2_with fail
    refine (specDamage_any w.heap.size b t w4 (by omega) HS4.out).mono ?_; rintro e w5 ⟨s, rfl, hs, _, hg5⟩
    have HZ := Lib.hid (show s.size ≤ 2000 by omega)
    have HB5 := Lib.hid (HB4.out.trans (grown_below hg5 hbB HB4.out.size)); clear hg5 hs
    go_wp2_with fail
    go_ret
    exact ⟨s, rfl, HZ.out, HB5.out⟩
  · have e0 : (x4 == 0) = false := beq_eq_false_iff_ne.2 h0
    clear h0
    go_wp2_with fail
    go_ret
    exact ⟨t, rfl, by omega, HB4.out⟩

end Go.Proofs.YtfadmlgdabamhaaDoor
