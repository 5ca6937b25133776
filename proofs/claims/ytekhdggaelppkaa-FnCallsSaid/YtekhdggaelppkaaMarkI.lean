/- Contracts of the laws' own helpers on marks in slices of int64: markInt64S, heldInt64S. -/
import Derived.Test.YtekhdggaelppkaaChecked
import Derived.Test.YtekhdggaelppkaaBase0
import Derived.WalkKit
import Derived.WalkSpells
import Derived.WalkLawsBesides
import Derived.Lib.Hide
import Derived.Deep.OwnRows
namespace Go.Proofs.Ytekhdggaelppkaa
open Go.RowKit Pure2

/-- a slice of int64 in a row of the call's own (from block B on): its first len numbers are given by g -/
def OwnI (B : Nat) (w : World) (a : Option Addr) (len : Nat) (g : Nat → Int) : Prop :=
  len = 0 ∨ ∃ b f N, a = some ⟨b, 0, none⟩ ∧ B ≤ b ∧ len ≤ N ∧ w.rowIs b 2 N f ∧ ∀ i, i < len → f i = .int .i64 (g i)
theorem OwnI.below {B : Nat} {w w' : World} {a : Option Addr} {len : Nat} {g : Nat → Int} (h : OwnI B w a len g) (hb : Below w.heap.size w w') : OwnI B w' a len g := by
  rcases h with h | ⟨b, f, N, rfl, hB, hN, hr, hf⟩
  · exact .inl h
  · exact .inr ⟨b, f, N, rfl, hB, hN, hr.of_block (hb.block b hr.lt), hf⟩
theorem OwnI.at {B : Nat} {w : World} {a : Option Addr} {len : Nat} {g : Nat → Int} (h : OwnI B w a len g) {n : Nat} (hn : n < len) : ∃ b, a = some ⟨b, 0, none⟩ ∧ w.cell? ⟨b, n, none⟩ = some (.int .i64 (g n)) := by
  rcases h with h | ⟨b, f, N, rfl, hB, hN, hr, hf⟩
  · omega
  · exact ⟨b, rfl, by rw [hr.cell (by omega), hf n hn]⟩
theorem ownI_reads {B : Nat} {w : World} {a : Option Addr} {zs : List Int} (h : OwnI B w a zs.length (fun i => zs.getD i 0)) : IntsAt w a zs := by
  rcases h with h | ⟨b, f, N, rfl, hb, hN, hr, hf⟩
  · exact .inl (List.length_eq_zero_iff.1 h)
  · refine .inr ⟨b, 0, rfl, fun i x hx => ?_⟩
    have hi := (List.getElem?_eq_some_iff.1 hx).1
    rw [Nat.zero_add, hr.cell (by omega), hf i hi]
    simp [List.getD, hx]

def MarkedI (B : Nat) (a : Option Addr) (len : Nat) (k : Int) (w : World) (e : Ending) (w' : World) : Prop :=
  e = .returned (.int .i64 (k + len)) ∧ OwnI B w' a len (fun i => k + i) ∧ Below B w w' ∧ w.heap.size ≤ w'.heap.size
theorem markI_step {k : Int} {n : Nat} {f : Nat → Value} (hf : ∀ i, i < n → f i = .int .i64 (k + i)) :
    ∀ i, i < n + 1 → (fun j => if j = n then Value.int .i64 (k + n) else f j) i = .int .i64 (k + i) := by
  intro i hi
  by_cases e : i = n
  · subst e; simp
  · simp only [if_neg e]; exact hf i (by omega)

set_option maxRecDepth 100000 in
set_option maxHeartbeats 400000 in
theorem markInt64S_any (B : Nat) (a : Option Addr) (len cap : Nat) (g : Nat → Int) (k : Int) (w : World) (hl : len ≤ 1000000000) (h0 : 0 < k) (h1 : k ≤ 1000000000) (h : OwnI B w a len g) :
    Calls Try.prog 45 #[.slice a len cap, .int .i64 k] w (MarkedI B a len k w) := by
  rcases h with rfl | ⟨b, f, N, rfl, hb, hN, hr, hf⟩
  · go_enter Try.func45, Try.ntmps45
    go_wp2
    go_loopw [1, 5] (fun kk i wr => i = .int .i64 0 ∧ kk = .int .i64 k ∧ wr = w) (fun _ _ _ => 0)
    case atStart => exact ⟨rfl, rfl, rfl⟩
    case round =>
      obtain ⟨rfl, rfl, rfl⟩ := hrel
      go_wp2
      go_ret
      exact ⟨ret_i64 (by simp), .inl rfl, Below.refl _ _, Nat.le_refl _⟩
  · have HR := Lib.hid hr; clear hr hf
    go_enter Try.func45, Try.ntmps45
    go_wp2
    go_loopw [1, 5] (fun kk i wr => ∃ n : Nat, n ≤ len ∧ i = .int .i64 n ∧ kk = .int .i64 (k + n) ∧ w.heap.size ≤ wr.heap.size ∧ Below B w wr ∧ ∃ f, wr.rowIs b 2 N f ∧ ∀ i, i < n → f i = .int .i64 (k + i)) (fun _ i _ => len - (intOf i).toNat)
    case atStart => exact ⟨0, Nat.zero_le _, rfl, by simp, Nat.le_refl _, Below.refl _ _, _, HR.out, fun i hi => by omega⟩
    case round =>
      obtain ⟨n, hn, rfl, rfl, hsz, hW, f, hr, hf⟩ := hrel
      have HW := Lib.hid hW; have HR := Lib.hid hr; have HF := Lib.hid hf; clear hW hr hf
      by_cases hlt : n < len
      · have hc2 := HR.out.cell (Nat.lt_of_lt_of_le hlt hN)
        have hf2 := HR.out.frozen n
        go_wp2_with fail
        go_roundw
        case rel => exact ⟨n + 1, by omega, by go_num, by rw [show k + (n : Int) + 1 = k + ((n + 1 : Nat) : Int) by omega], by simpa using hsz, HW.out.setCell hb _, _, HR.out.set _ _, markI_step HF.out⟩
        case measure => simp [intOf]; omega
      · have HN := Lib.hid (show n = len by omega)
        go_wp2
        go_ret
        exact ⟨ret_i64 (by rw [HN.out]), .inr ⟨b, f, N, rfl, hb, hN, HR.out, fun i hi => HF.out i (by rw [HN.out]; exact hi)⟩, HW.out, hsz⟩

set_option maxRecDepth 100000 in
set_option maxHeartbeats 400000 in
theorem heldInt64S_any (B : Nat) (a : Option Addr) (len cap : Nat) (k : Int) (w : World) (hl : len ≤ 1000000000) (h0 : 0 < k) (h1 : k ≤ 1000000000) (h : OwnI B w a len (fun i => k + i)) :
    Calls Try.prog 48 #[.slice a len cap, .int .i64 k] w fun e w' => e = .returned (.int .i64 (k + len)) ∧ w = w' := by
  have HO := Lib.hid h; clear h
  go_enter Try.func48, Try.ntmps48
  go_wp2
  go_loop [1, 5] (fun kk i => ∃ n : Nat, n ≤ len ∧ i = .int .i64 n ∧ kk = .int .i64 (k + n)) (fun _ i => len - (intOf i).toNat)
  case atStart => exact ⟨0, Nat.zero_le _, rfl, by simp⟩
  case round =>
    obtain ⟨n, hn, rfl, rfl⟩ := hrel
    by_cases hlt : n < len
    · obtain ⟨b, ha, hc2⟩ := HO.out.at hlt
      subst ha
      go_wp2_with fail
      go_round
      case rel => exact ⟨n + 1, by omega, by go_num, by rw [show k + (n : Int) + 1 = k + ((n + 1 : Nat) : Int) by omega]⟩
      case measure => simp [intOf]; omega
    · have HN := Lib.hid (show n = len by omega)
      go_wp2
      go_ret
      exact ⟨ret_i64 (by rw [HN.out]), rfl⟩

end Go.Proofs.Ytekhdggaelppkaa
