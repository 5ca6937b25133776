/- Contract: spec.l01Pick hands out one of some numbers. -/
import Derived.Test.YtekhdggaelppkaaChecked
import Derived.Test.YtekhdggaelppkaaBase0
import Derived.Test.YtekhdggaelppkaaNext
import Derived.WalkKit
import Derived.WalkSpells
import Derived.WalkLawsBesides
import Derived.Lib.Hide
namespace Go.Proofs.Ytekhdggaelppkaa
open Go.RowKit Pure2 Pure6

/-- one of the numbers zs is handed out -/
def Picked (B : Nat) (b : Nat) (zs : List Int) (w : World) (e : Ending) (w' : World) : Prop :=
  ∃ x, e = .returned (.int .i64 x) ∧ x ∈ zs ∧ Src B 93 w' b ∧ w.grownBy w' (some b)

set_option maxHeartbeats 400000 in
theorem specPick_any (B b ba : Nat) (zs : List Int) (len cap : Nat) (w : World) (hl : zs.length = len) (h0 : 0 < len) (hm : len ≤ 1000) (h : Src B 93 w b) (hne : ba ≠ b)
    (hz : ∀ i x, zs[i]? = some x → w.cell? ⟨ba, i, none⟩ = some (.int .i64 x)) :
    Calls Try.prog 60 #[.pointer (some ⟨b, 0, none⟩), .slice (some ⟨ba, 0, none⟩) len cap] w (Picked B b zs w) := by
  have HC := Lib.hid (specNext_any B b len w (by omega) h)
  have HL := Lib.hid hl; have HZ := Lib.hid hz; clear hl h hz
  go_enter Try.func60, Try.ntmps60
  go_wp2_with fail
  refine HC.out.mono ?_; rintro e w1 ⟨x, rfl, hx1, hx2, hS, hg⟩
  obtain ⟨n, rfl, hn⟩ : ∃ n : Nat, x = n ∧ n < len := by
    by_cases h1 : 1 < len
    · have := hx1 (by omega); exact ⟨x.toNat, by omega, by omega⟩
    · have := hx2 (by omega); exact ⟨0, by omega, by omega⟩
  obtain ⟨y, hy⟩ : ∃ y, zs[n]? = some y := ⟨_, List.getElem?_eq_getElem (by rw [HL.out]; exact hn)⟩
  have hc := hg.cell (HZ.out n y hy) (by intro e; cases e; exact hne rfl)
  have HX := Lib.hid (List.mem_of_getElem? hy)
  have HS := Lib.hid hS; have HG := Lib.hid hg
  clear hx1 hx2 hS hg hy
  go_wp2_with fail
  go_ret
  exact ⟨y, rfl, HX.out, HS.out, HG.out⟩

end Go.Proofs.Ytekhdggaelppkaa
