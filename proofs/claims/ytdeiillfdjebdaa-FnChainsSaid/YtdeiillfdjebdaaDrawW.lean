/- Contracts: spec.l01Good and spec.l01DrawWord draw a word or another short text. -/
import Derived.Test.YtdeiillfdjebdaaChecked
import Derived.Test.YtdeiillfdjebdaaPure6
import Derived.Test.YtdeiillfdjebdaaNext
import Derived.WalkKit
import Derived.WalkSpells
import Derived.WalkLawsBesides
import Derived.Lib.Hide
namespace Go.Proofs.Ytdeiillfdjebdaa
open Go.RowKit Pure2 Pure6

/-- a text of at most 20 bytes is handed out -/
def GaveT (B b : Nat) (w : World) (e : Ending) (w' : World) : Prop := ∃ s : ByteArray, e = .returned (.string s) ∧ s.size ≤ 20 ∧ Src B 96 w' b ∧ w.grownBy w' (some b)

theorem alloc_strs (w : World) (T : TypeId) (ss : List ByteArray) : ∀ i x, ss[i]? = some x → (w.alloc (.cells (ss.map Value.string).toArray T)).cell? ⟨w.heap.size, i, none⟩ = some (.string x) := by
  intro i x hx
  have : (w.alloc (.cells (ss.map Value.string).toArray T)).heap[w.heap.size]? = some (.cells (ss.map Value.string).toArray T) := heap_alloc_new w _
  unfold World.cell?
  rw [this]
  simp [hx]

def goods : List ByteArray := [⟨#[97, 100, 97]⟩, ⟨#[98, 114, 117, 110, 111]⟩, ⟨#[99, 108, 97, 114, 97]⟩, ⟨#[100, 111, 114, 97]⟩, ⟨#[101, 109, 105, 108]⟩, ⟨#[102, 114, 105, 100, 97]⟩, ⟨#[103, 117, 115, 116, 97, 118]⟩, ⟨#[104, 97, 110, 110, 97]⟩, ⟨#[105, 118, 97, 110]⟩, ⟨#[106, 97, 110, 97]⟩, ⟨#[107, 97, 114, 108]⟩, ⟨#[108, 101, 110, 97]⟩]
def odds : List ByteArray := [⟨#[]⟩, ⟨#[65, 100, 97]⟩, ⟨#[97, 49]⟩, ⟨#[97, 98, 99, 100, 101, 102, 103, 104, 105, 106, 107, 108, 109, 110, 111, 112]⟩, ⟨#[97, 98, 99, 100, 101, 102, 103, 104, 105, 106, 107, 108, 109, 110, 111, 112, 113]⟩, ⟨#[97, 32, 98]⟩]
theorem goods_size : ∀ s ∈ goods, s.size ≤ 20 := by decide
theorem odds_size : ∀ s ∈ odds, s.size ≤ 20 := by decide

set_option maxRecDepth 100000 in
set_option maxHeartbeats 800000 in
theorem specGood_any (B b : Nat) (w : World) (h : Src B 96 w b) :
    Calls Try.prog 97 #[.pointer (some ⟨b, 0, none⟩)] w (GaveT B b w) := by
  have hlt := h.lt
  have HC := Lib.hid (specNext_any B b 12 (w.alloc (.cells (goods.map Value.string).toArray 9)) (by omega) (h.alloc _))
  have HZ := Lib.hid (alloc_strs w 9 goods)
  clear h
  go_enter Try.func97, Try.ntmps97
  go_wp2_with fail
  refine HC.out.mono ?_; rintro e w1 ⟨x, rfl, hx, _, hS, hg⟩
  obtain ⟨l1, u1⟩ := hx (by omega)
  obtain ⟨n, rfl⟩ := Int.eq_ofNat_of_zero_le l1
  have hn : n < 12 := by omega
  obtain ⟨y, hy⟩ : ∃ y, goods[n]? = some y := ⟨_, List.getElem?_eq_getElem (by show n < 12; exact hn)⟩
  have hc := hg.cell (HZ.out n y hy) (by intro e; have e2 : w.heap.size = b := Option.some.inj e; omega)
  have HY := Lib.hid (goods_size y (List.mem_of_getElem? hy))
  have HS := Lib.hid hS; have HG := Lib.hid (grown_trans (grown_alloc w _ _) hg)
  clear hx hS hg hy l1
  go_wp2_with fail
  go_ret
  exact ⟨y, rfl, HY.out, HS.out, HG.out⟩

set_option maxRecDepth 100000 in
set_option maxHeartbeats 800000 in
theorem specDrawWord_any (B b : Nat) (w : World) (h : Src B 96 w b) :
    Calls Try.prog 94 #[.pointer (some ⟨b, 0, none⟩)] w (GaveT B b w) := by
  have HC := Lib.hid (specNext_any B b 24 w (by omega) h)
  clear h
  go_enter Try.func94, Try.ntmps94
  go_wp2_with fail
  refine HC.out.mono ?_; rintro e w1 ⟨x, rfl, hx, _, hS, hg⟩
  have hlt := hS.lt
  have HS := Lib.hid hS; have HG := Lib.hid hg; clear hS hg hx
  by_cases hx0 : x = 0
  · have hx0' : (x == 0) = true := beq_iff_eq.2 hx0
    clear hx0
    have HC2 := Lib.hid (specNext_any B b 6 (w1.alloc (.cells (odds.map Value.string).toArray 9)) (by omega) (HS.out.alloc _))
    have HZ := Lib.hid (alloc_strs w1 9 odds)
    go_wp2_with fail
    refine HC2.out.mono ?_; rintro e w2 ⟨x2, rfl, hx2, _, hS2, hg2⟩
    obtain ⟨l1, u1⟩ := hx2 (by omega)
    obtain ⟨n, rfl⟩ := Int.eq_ofNat_of_zero_le l1
    have hn : n < 6 := by omega
    obtain ⟨y, hy⟩ : ∃ y, odds[n]? = some y := ⟨_, List.getElem?_eq_getElem (by show n < 6; exact hn)⟩
    have hc := hg2.cell (HZ.out n y hy) (by intro e; have e2 : w1.heap.size = b := Option.some.inj e; omega)
    have HY := Lib.hid (odds_size y (List.mem_of_getElem? hy))
    have HS2 := Lib.hid hS2; have HG2 := Lib.hid (grown_trans HG.out (grown_trans (grown_alloc w1 _ _) hg2))
    clear hx2 hS2 hg2 hy l1
    go_wp2_with fail
    go_ret
    exact ⟨y, rfl, HY.out, HS2.out, HG2.out⟩
  · have hx0' : (x == 0) = false := beq_eq_false_iff_ne.2 hx0
    clear hx0
    go_wp2_with fail
    refine (specGood_any B b w1 HS.out).mono ?_; rintro e w2 ⟨s, rfl, hs, hS2, hg2⟩
    have HY := Lib.hid hs; have HS2 := Lib.hid hS2; have HG2 := Lib.hid (grown_trans HG.out hg2); clear hs hS2 hg2
    go_wp2_with fail
    go_ret
    exact ⟨s, rfl, HY.out, HS2.out, HG2.out⟩

end Go.Proofs.Ytdeiillfdjebdaa
