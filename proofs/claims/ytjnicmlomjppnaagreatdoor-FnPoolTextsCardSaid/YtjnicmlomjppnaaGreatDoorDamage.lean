/- Contract: spec.l01Damage spoils a text. -/
import Derived.Test.YtjnicmlomjppnaaGreatDoorChecked
import Derived.Test.YtjnicmlomjppnaaGreatDoorBase0
import Derived.Test.YtjnicmlomjppnaaGreatDoorFrom
import Derived.Test.YtjnicmlomjppnaaGreatDoorDrawW
import Derived.WalkKit
import Derived.WalkSpells
import Derived.WalkLawsBesides
import Derived.Lib.Hide
import Derived.IntWalk
import Derived.RegionTactic
import Derived.Deep.RegionWith
import Derived.Deep.OwnRows
import Derived.Outline
namespace Go.Proofs.YtjnicmlomjppnaaGreatDoor
open Go.RowKit Pure2 Pure3 Pure4 Pure6

/-- a text of at most m bytes is handed out -/
def GaveS (B b m : Nat) (w : World) (e : Ending) (w' : World) : Prop := ∃ s : ByteArray, e = .returned (.string s) ∧ s.size ≤ m ∧ Src B 58 w' b ∧ w.grownBy w' (some b)
/-- a text of at most m bytes is drawn -/
def DrewS (m : Nat) (w : World) (e : Ending) (w' : World) : Prop := ∃ s : ByteArray, e = .returned (.string s) ∧ s.size ≤ m ∧ Below w.heap.size w w'
/-- a number is drawn -/
def DrewI (w : World) (e : Ending) (w' : World) : Prop := ∃ x, e = .returned (.int .i64 x) ∧ Below w.heap.size w w'

def smears : List ByteArray := [⟨#[48]⟩, ⟨#[35]⟩, ⟨#[46]⟩, ⟨#[47]⟩, ⟨#[32]⟩, ⟨#[97]⟩, ⟨#[45]⟩, ⟨#[10]⟩]
theorem smears_size : ∀ s ∈ smears, s.size ≤ 1 := by decide
theorem smear_get {n : Nat} {z : ByteArray} (hz : smears[n]? = some z) : ([Value.string ⟨#[48]⟩, Value.string ⟨#[35]⟩, Value.string ⟨#[46]⟩, Value.string ⟨#[47]⟩, Value.string ⟨#[32]⟩, Value.string ⟨#[97]⟩, Value.string ⟨#[45]⟩, Value.string ⟨#[10]⟩] : List Value)[n]'(by obtain ⟨h, _⟩ := List.getElem?_eq_some_iff.1 hz; exact h) = .string z := by
  have h2 : ([Value.string ⟨#[48]⟩, Value.string ⟨#[35]⟩, Value.string ⟨#[46]⟩, Value.string ⟨#[47]⟩, Value.string ⟨#[32]⟩, Value.string ⟨#[97]⟩, Value.string ⟨#[45]⟩, Value.string ⟨#[10]⟩] : List Value)[n]? = some (.string z) := by
    have h3 : (smears.map Value.string)[n]? = some (.string z) := by rw [List.getElem?_map, hz]; rfl
    exact h3
  exact (List.getElem?_eq_some_iff.1 h2).2
theorem gdrew {w w' : World} {r : Option Nat} (h : w.grownBy w' r) : w.grownBy w'.drew r := ⟨h.os, h.tape, h.output, h.size, h.block⟩
theorem ext_size (t : ByteArray) (i j : Nat) : (t.extract i j).size ≤ j - i := by rw [ByteArray.size_extract]; omega
theorem smear_size {t y : ByteArray} {k : Nat} (hk : k ≤ t.size) (hy : y.size ≤ 1) : (t.extract 0 k ++ y ++ t.extract k t.size).size ≤ t.size + 1 := by
  have h1 := ext_size t 0 k; have h2 := ext_size t k t.size
  rw [ByteArray.size_append, ByteArray.size_append]; omega
theorem cut_size {t : ByteArray} {k : Nat} (hk : k < t.size) : (t.extract 0 k ++ t.extract (k + 1) t.size).size ≤ t.size + 1 := by
  have h1 := ext_size t 0 k; have h2 := ext_size t (k + 1) t.size
  rw [ByteArray.size_append]; omega

set_option maxRecDepth 100000 in
set_option maxHeartbeats 1000000 in
theorem specDamage_any (B b : Nat) (t : ByteArray) (w : World) (ht : t.size ≤ 100000000) (h : Src B 58 w b) :
    Calls Tryz.prog 22 #[.pointer (some ⟨b, 0, none⟩), .string t] w (GaveS B b (t.size + 1) w) := by
  have HC := Lib.hid (specNext_any B b (t.size + 1) w (by omega) h); clear h
  go_enter Tryz.func22, Tryz.ntmps22
  go_wp2_with fail
  refine HC.out.mono ?_; rintro e w1 ⟨x, rfl, hx, hx1, hS, hg⟩
  obtain ⟨k, rfl, hk⟩ : ∃ k : Nat, x = k ∧ k ≤ t.size := by
    by_cases h1 : 1 < (t.size : Int) + 1
    · have := hx h1; exact ⟨x.toNat, by omega, by omega⟩
    · have := hx1 (by omega); exact ⟨0, by omega, by omega⟩
  have HS := Lib.hid hS; have HG := Lib.hid hg; clear hS hg hx hx1
  go_wp2_with fail
  refine (specNext_any B b 8 w1 (by omega) HS.out).mono ?_; rintro e w2 ⟨y, rfl, hy, _, hS2, hg2⟩
  obtain ⟨l1, u1⟩ := hy (by omega)
  have hlt2 := hS2.lt
  have HS2 := Lib.hid hS2; have HG2 := Lib.hid (grown_trans HG.out hg2); clear hS2 hg2 hy
  by_cases h0 : y = 0
  · have e0 : (y == 0) = true := beq_iff_eq.2 h0
    clear h0
    have HZ := Lib.hid (show (t.extract 0 k).size ≤ t.size + 1 by have := ext_size t 0 k; omega)
    go_wp2_with fail
    go_ret
    exact ⟨_, rfl, HZ.out, HS2.out, HG2.out⟩
  have e0 : (y == 0) = false := beq_eq_false_iff_ne.2 h0
  by_cases h1 : y = 1
  · have e1 : (y == 1) = true := beq_iff_eq.2 h1
    clear h0 h1
    go_wp2_with fail
    go_region_with (go_at_call 21; refine (specNext_any B b 8 _ (by omega) (by first | exact HS2.out | exact HS2.out.alloc _)).mono ?_; rintro e w3 ⟨x2, rfl, hx2, _, hS3, hg3⟩; obtain ⟨l2, u2⟩ := hx2 (by omega); obtain ⟨n, rfl⟩ := Int.eq_ofNat_of_zero_le l2; have hn : n < 8 := (by omega); obtain ⟨z, hz⟩ : ∃ z, smears[n]? = some z := ⟨_, List.getElem?_eq_getElem (by show n < 8; exact hn)⟩; have hzs := smears_size z (List.mem_of_getElem? hz); have HZ := Lib.hid (smear_size hk hzs); (try (have hc := hg3.cell (alloc_strs w2 9 smears n z hz) (by intro e; have e2 : w2.heap.size = b := Option.some.inj e; omega))); have hgt := smear_get hz)
    all_goals
      have HS3 := Lib.hid hS3; have HG3 := Lib.hid hg3; clear hS3 hg3
      go_wp2_with fail
      go_ret
      first
        | exact ⟨_, rfl, HZ.out, HS3.out, grown_trans (gdrew (grown_trans HG2.out (grown_alloc w2 _ _))) HG3.out⟩
        | exact ⟨_, rfl, HZ.out, HS3.out.alloc _, grown_trans (grown_trans (gdrew HG2.out) HG3.out) (grown_alloc w3 _ _)⟩
  have e1 : (y == 1) = false := beq_eq_false_iff_ne.2 h1
  by_cases h2 : y = 2
  · have e2 : (y == 2) = true := beq_iff_eq.2 h2
    clear h0 h1 h2
    by_cases hkl : (k : Int) < t.size
    · have HZ := Lib.hid (cut_size (t := t) (k := k) (by omega))
      have q1 : IntKind.i64.wrap ((k : Int) + 1) = (k : Int) + 1 := IntWalk.i64_in _ (by omega)
      go_wp2_with fail
      go_region
      go_wp2_with fail
      go_ret
      exact ⟨_, rfl, HZ.out, HS2.out, gdrew HG2.out⟩
    · go_wp2_with fail
      go_ret
      exact ⟨_, rfl, Nat.le_succ _, HS2.out, HG2.out⟩
  · have e2 : (y == 2) = false := beq_eq_false_iff_ne.2 h2
    clear h0 h1 h2
    go_wp2_with fail
    go_ret
    exact ⟨_, rfl, Nat.le_succ _, HS2.out, HG2.out⟩

theorem src_calls {B b : Nat} {T : TypeId} {w w' : World} (h : Src B T w b) (hB : Below w.heap.size w w') : Src B T w' b :=
  h.kept (hB.block _ h.lt) (hB.mono (Nat.le_trans h.base (Nat.le_of_lt h.lt)))


end Go.Proofs.YtjnicmlomjppnaaGreatDoor
