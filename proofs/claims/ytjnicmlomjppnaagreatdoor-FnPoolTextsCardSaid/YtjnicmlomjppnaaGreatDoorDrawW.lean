/- Contracts: spec.l01Good and spec.l01DrawWord draw a word or another short text. -/
import Derived.Test.YtjnicmlomjppnaaGreatDoorChecked
import Derived.Test.YtjnicmlomjppnaaGreatDoorBase0
import Derived.Test.YtjnicmlomjppnaaGreatDoorMidA
import Derived.WalkKit
import Derived.WalkSpells
import Derived.WalkLawsBesides
import Derived.Lib.Hide
namespace Go.Proofs.YtjnicmlomjppnaaGreatDoor
open Go.RowKit Pure2 Pure6

/-- a text of at most 20 bytes is handed out -/
def GaveT (B b : Nat) (w : World) (e : Ending) (w' : World) : Prop := ∃ s : ByteArray, e = .returned (.string s) ∧ s.size ≤ 20 ∧ Src B 58 w' b ∧ w.grownBy w' (some b)

theorem alloc_strs (w : World) (T : TypeId) (ss : List ByteArray) : ∀ i x, ss[i]? = some x → (w.alloc (.cells (ss.map Value.string).toArray T)).cell? ⟨w.heap.size, i, none⟩ = some (.string x) := by
  intro i x hx
  have : (w.alloc (.cells (ss.map Value.string).toArray T)).heap[w.heap.size]? = some (.cells (ss.map Value.string).toArray T) := heap_alloc_new w _
  unfold World.cell?
  rw [this]
  simp [hx]

def goods : List ByteArray := [⟨#[97, 100, 97]⟩, ⟨#[98, 114, 117, 110, 111]⟩, ⟨#[99, 108, 97, 114, 97]⟩, ⟨#[100, 111, 114, 97]⟩, ⟨#[101, 109, 105, 108]⟩, ⟨#[102, 114, 105, 100, 97]⟩, ⟨#[103, 117, 115, 116, 97, 118]⟩, ⟨#[104, 97, 110, 110, 97]⟩, ⟨#[105, 118, 97, 110]⟩, ⟨#[106, 97, 110, 97]⟩, ⟨#[107, 97, 114, 108]⟩, ⟨#[108, 101, 110, 97]⟩]
def odds : List ByteArray := [⟨#[]⟩, ⟨#[65, 100, 97]⟩, ⟨#[97, 49]⟩, ⟨#[97, 98, 99, 100, 101, 102, 103, 104, 105, 106, 107, 108, 109, 110, 111, 112]⟩, ⟨#[97, 98, 99, 100, 101, 102, 103, 104, 105, 106, 107, 108, 109, 110, 111, 112, 113]⟩, ⟨#[97, 32, 98]⟩]
theorem goods_size : ∀ s ∈ goods, s.size ≤ 20 := by decide
theorem odds_size : ∀ s ∈ odds, s.size ≤ 20 := by decide

end Go.Proofs.YtjnicmlomjppnaaGreatDoor
