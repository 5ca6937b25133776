/- Contracts of the laws' own helpers on marks: markText, markStringS, heldStringS. -/
import Derived.Test.YtfadmlgdabamhaaDoorChecked
import Derived.Test.YtfadmlgdabamhaaDoorPure4
import Derived.Test.YtfadmlgdabamhaaDoorBase
import Derived.WalkKit
import Derived.WalkSpells
import Derived.WalkLawsBesides
import Derived.Lib.Hide
import Derived.Deep.OwnRows
import Derived.Deep.RegionWith
import Derived.IntWalk
import Derived.Outline
namespace Go.Proofs.YtfadmlgdabamhaaDoor
open Go.RowKit Pure3 Pure4

set_option maxRecDepth 100000 in
set_option maxHeartbeats 400000 in
theorem markText_any (k : Int) (w : World) (h0 : 0 < k) (h1 : k ≤ 1000000000000) :
    Calls Tryd.prog 65 #[.int .i64 k] w (SaysT (mk k) w) := by
  have hcv := run_string_one (P := Tryd.prog) 22 9 5 Tryd.underlying22 Tryd.underlying5 Tryd.underlying9
  go_enter Tryd.func65, Tryd.ntmps65
  go_wp2
  go_loopw [0, 3] (fun kk out wr => ∃ (c : Int) (o : ByteArray), kk = .int .i64 c ∧ out = .string o ∧ 0 ≤ c ∧ c ≤ k ∧ MkMid k c o ∧ Below w.heap.size w wr) (fun kk _ _ => (intOf kk).toNat)
  case atStart => exact ⟨k, ⟨#[]⟩, rfl, rfl, by omega, by omega, MkMid.start k h0, Below.refl _ _⟩
  case round =>
    obtain ⟨c, o, rfl, rfl, hc0, hck, hm, hB⟩ := hrel
    have HM := Lib.hid hm; have HB := Lib.hid hB
    have ho : o.size ≤ 21 := hm.size (by omega) (by omega)
    clear hm hB
    by_cases hc : 0 < c
    · have HN := Lib.hid (HM.out.step hc)
      have hs1 : (dig1 (c % 10)).size = 1 := rfl
      have hm0 : 0 ≤ c % 10 := by omega
      have hm1 : c % 10 < 10 := by omega
      go_wp2
      go_roundw
      case rel => exact ⟨c / 10, dig1 (c % 10) ++ o, rfl, rfl, by omega, by omega, HN.out, HB.out.alloc HB.out.size _⟩
      case measure => simp [intOf]; omega
    · have hz : c = 0 := by omega
      have HF := Lib.hid (show (⟨#[109]⟩ : ByteArray) ++ o = mk k by have := HM.out; rw [hz] at this; exact this.fin)
      have hc' : c ≤ 0 := by omega
      clear hz hc
      go_wp2
      go_ret
      exact ⟨ret_str HF.out, HB.out⟩

/-- a slice of texts in a row of the call's own (from block B on): its first len texts are given by g -/
def OwnS (B : Nat) (w : World) (a : Option Addr) (len : Nat) (g : Nat → ByteArray) : Prop :=
  len = 0 ∨ ∃ b f N, a = some ⟨b, 0, none⟩ ∧ B ≤ b ∧ len ≤ N ∧ w.rowIs b 9 N f ∧ ∀ i, i < len → f i = .string (g i)
theorem OwnS.below {B : Nat} {w w' : World} {a : Option Addr} {len : Nat} {g : Nat → ByteArray} (h : OwnS B w a len g) (hb : Below w.heap.size w w') : OwnS B w' a len g := by
  rcases h with h | ⟨b, f, N, rfl, hB, hN, hr, hf⟩
  · exact .inl h
  · exact .inr ⟨b, f, N, rfl, hB, hN, hr.of_block (hb.block b hr.lt), hf⟩

/-- what markStringS says -/
def Marked (B : Nat) (a : Option Addr) (len : Nat) (k : Int) (w : World) (e : Ending) (w' : World) : Prop :=
  e = .returned (.int .i64 (k + len)) ∧ OwnS B w' a len (fun i => mk (k + i)) ∧ Below B w w' ∧ w.heap.size ≤ w'.heap.size

theorem mark_step {k : Int} {n : Nat} {f : Nat → Value} (hf : ∀ i, i < n → f i = .string (mk (k + i))) :
    ∀ i, i < n + 1 → (fun j => if j = n then Value.string (mk (k + n)) else f j) i = .string (mk (k + i)) := by
  intro i hi
  by_cases e : i = n
  · subst e; simp
  · simp only [if_neg e]; exact hf i (by omega)

set_option maxRecDepth 100000 in
set_option maxHeartbeats 400000 in
theorem markStringS_any (B : Nat) (a : Option Addr) (len cap : Nat) (g : Nat → ByteArray) (k : Int) (w : World) (hB : B ≤ w.heap.size) (hl : len ≤ 1000000000) (h0 : 0 < k) (h1 : k ≤ 1000000000) (h : OwnS B w a len g) :
    Calls Tryd.prog 33 #[.slice a len cap, .int .i64 k] w (Marked B a len k w) := by
  rcases h with rfl | ⟨b, f, N, rfl, hb, hN, hr, hf⟩
  · go_enter Tryd.func33, Tryd.ntmps33
    go_wp2
    go_loopw [1, 5] (fun kk i wr => i = .int .i64 0 ∧ kk = .int .i64 k ∧ wr = w) (fun _ _ _ => 0)
    case atStart => exact ⟨rfl, rfl, rfl⟩
    case round =>
      obtain ⟨rfl, rfl, rfl⟩ := hrel
      go_wp2
      go_ret
      exact ⟨ret_i64 (by simp), .inl rfl, Below.refl _ _, Nat.le_refl _⟩
  · have HR := Lib.hid hr; have hbw := hr.lt; clear hr hf
    go_enter Tryd.func33, Tryd.ntmps33
    go_wp2
    go_loopw [1, 5] (fun kk i wr => ∃ n : Nat, n ≤ len ∧ i = .int .i64 n ∧ kk = .int .i64 (k + n) ∧ w.heap.size ≤ wr.heap.size ∧ Below B w wr ∧ ∃ f, wr.rowIs b 9 N f ∧ ∀ i, i < n → f i = .string (mk (k + i))) (fun _ i _ => len - (intOf i).toNat)
    case atStart => exact ⟨0, Nat.zero_le _, rfl, by simp, Nat.le_refl _, Below.refl _ _, _, HR.out, fun i hi => by omega⟩
    case round =>
      obtain ⟨n, hn, rfl, rfl, hsz, hW, f, hr, hf⟩ := hrel
      have HW := Lib.hid hW; have HR := Lib.hid hr; have HF := Lib.hid hf; clear hW hr hf
      by_cases hlt : n < len
      · have HC := Lib.hid (markText_any (k + n) wr (by omega) (by omega))
        go_wp2_with fail
        refine HC.out.mono ?_; rintro e w1 ⟨rfl, hB1⟩
        have HR1 := Lib.hid (HR.out.of_block (hB1.block b HR.out.lt))
        have hsz1 : w.heap.size ≤ w1.heap.size := Nat.le_trans hsz hB1.size
        have HW1 := Lib.hid (HW.out.trans (hB1.mono (Nat.le_trans hB hsz))); clear hB1
        have hc2 := HR1.out.cell (Nat.lt_of_lt_of_le hlt hN)
        have hf2 := HR1.out.frozen n
        go_wp2_with fail
        go_roundw
        case rel => exact ⟨n + 1, by omega, by go_num, by rw [show k + (n : Int) + 1 = k + ((n + 1 : Nat) : Int) by omega], by simpa using hsz1, HW1.out.setCell hb _, _, HR1.out.set _ _, mark_step HF.out⟩
        case measure => simp [intOf]; omega
      · have HN := Lib.hid (show n = len by omega)
        go_wp2
        go_ret
        exact ⟨ret_i64 (by rw [HN.out]), .inr ⟨b, f, N, rfl, hb, hN, HR.out, fun i hi => HF.out i (by rw [HN.out]; exact hi)⟩, HW.out, hsz⟩

theorem OwnS.at {B : Nat} {w : World} {a : Option Addr} {len : Nat} {g : Nat → ByteArray} (h : OwnS B w a len g) {n : Nat} (hn : n < len) : ∃ b, a = some ⟨b, 0, none⟩ ∧ b < w.heap.size ∧ w.cell? ⟨b, n, none⟩ = some (.string (g n)) := by
  rcases h with h | ⟨b, f, N, rfl, hB, hN, hr, hf⟩
  · omega
  · exact ⟨b, rfl, hr.lt, by rw [hr.cell (by omega), hf n hn]⟩

def SaysI (n : Int) (w : World) (e : Ending) (w' : World) : Prop := e = .returned (.int .i64 n) ∧ Below w.heap.size w w'

set_option maxRecDepth 100000 in
set_option maxHeartbeats 1000000 in
theorem heldStringS_any (B : Nat) (a : Option Addr) (len cap : Nat) (k : Int) (w : World) (hl : len ≤ 1000000000) (h0 : 0 < k) (h1 : k ≤ 1000000000) (h : OwnS B w a len (fun i => mk (k + i))) :
    Calls Tryd.prog 34 #[.slice a len cap, .int .i64 k] w (SaysI (k + len) w) := by
  have HO := Lib.hid h; clear h
  go_enter Tryd.func34, Tryd.ntmps34
  go_wp2
  go_loopw [1, 5] (fun kk i wr => ∃ n : Nat, n ≤ len ∧ i = .int .i64 n ∧ kk = .int .i64 (k + n) ∧ Below w.heap.size w wr) (fun _ i _ => len - (intOf i).toNat)
  case atStart => exact ⟨0, Nat.zero_le _, rfl, by simp, Below.refl _ _⟩
  case round =>
    obtain ⟨n, hn, rfl, rfl, hW⟩ := hrel
    have HW := Lib.hid hW; clear hW
    by_cases hlt : n < len
    · obtain ⟨b, ha, hbw, hc2⟩ := (HO.out.below HW.out).at hlt
      have HC := Lib.hid (fun W => markText_any (k + n) W (by omega) (by omega))
      subst ha
      have hs1 := mk_size (k := k + n) (by omega) (by omega)
      go_wp2_with fail
      go_region_with (go_at_call 65; refine (HC.out _).mono ?_; rintro e w1 ⟨rfl, hB⟩; have hc3 : w1.cell? ⟨b, n, none⟩ = some (.string (mk (k + n))) := cell_later hB hc2; have HB := Lib.hid hB; clear hB)
      all_goals
        have HB1 := Lib.hid (HW.out.trans ((Below.drew (Below.refl wr.heap.size wr)).trans HB.out |>.mono HW.out.size))
        go_wp2_with fail
        go_roundw
        case rel => exact ⟨n + 1, by omega, by go_num, by rw [show k + (n : Int) + 1 = k + ((n + 1 : Nat) : Int) by omega], HB1.out⟩
        case measure => simp [intOf]; omega
    · have HN := Lib.hid (show n = len by omega)
      go_wp2
      go_ret
      exact ⟨ret_i64 (by rw [HN.out]), HW.out⟩

end Go.Proofs.YtfadmlgdabamhaaDoor
