/- A list of numbers that a law lays and marks: it lies in a row of its own, and only that row turns. -/
import Derived.Test.YtchffaohmeaccaaDoorChecked
import Derived.Test.YtchffaohmeaccaaDoorBase0
import Derived.Test.YtchffaohmeaccaaDoorInfo
import Derived.Test.YtchffaohmeaccaaDoorMarkI
import Derived.WalkKit
import Derived.WalkSpells
import Derived.WalkLawsBesides
import Derived.Lib.Hide
import Derived.Lib.QuietBelow
import Derived.Deep.OwnRows
namespace Go.Proofs.YtchffaohmeaccaaDoor
open Go.RowKit Pure2

/-- a copy in a row of its own -/
def IsOwnCopy (w : World) (len : Nat) (zs : List Int) (e : Ending) (w' : World) : Prop :=
  ∃ b, e = .returned (.slice (some ⟨b, 0, none⟩) len len) ∧ w.heap.size ≤ b ∧ b < w'.heap.size ∧ OwnI w.heap.size w' (some ⟨b, 0, none⟩) len (fun i => zs.getD i 0) ∧ Below w.heap.size w w'
set_option maxHeartbeats 400000 in
theorem toInt64S_own (a : Option Addr) (len cap : Nat) (zs : List Int) (w : World) (hl : zs.length = len) (hm : len ≤ 1048576) (h : IntsAt w a zs) :
    Calls Tryd.prog 26 #[.slice a len cap] w (IsOwnCopy w len zs) := by
  have HL := Lib.hid hl; clear hl
  have HI := Lib.hid h; clear h
  have hmk := run_make_row' (P := Tryd.prog) 27 2 (.int .i64 0) 8 Tryd.underlying27 Tryd.info_i64 rfl .i64 .i64 len (by omega) (by omega)
  go_enter Tryd.func26, Tryd.ntmps26
  go_wp2
  go_loopw [4] (fun i wr => ∃ k : Nat, k ≤ len ∧ i = .int .i64 k ∧ Below w.heap.size w wr ∧ ∃ f, wr.rowIs w.heap.size 2 len f ∧ ∀ i x, i < k → zs[i]? = some x → f i = .int .i64 x) (fun i _ => len - (intOf i).toNat)
  case atStart => exact ⟨0, Nat.zero_le _, rfl, (Below.refl _ _).alloc (Nat.le_refl _) _, _, World.rowIs_made _ _ _ _, fun i x hi => by omega⟩
  case round =>
    obtain ⟨k, hk, rfl, hB, f, hr, hf⟩ := hrel
    have HB := Lib.hid hB; have HR := Lib.hid hr; have HF := Lib.hid hf; clear hB hr hf
    by_cases hlt : k < len
    · obtain ⟨b, off, x, ha, hc, ht, hx⟩ := (HI.out.below HB.out).at HL.out hlt
      have HX := Lib.hid hx; clear hx ht
      have hc2 := HR.out.cell hlt
      have hf2 := HR.out.frozen k
      subst ha
      go_wp2
      go_roundw
      case rel => exact ⟨k + 1, by omega, by go_num, HB.out.setCell (Nat.le_refl _) _, _, HR.out.set _ _, copy_step HF.out HX.out⟩
      case measure => simp [intOf]; omega
    · go_wp2
      go_ret
      exact ⟨_, rfl, Nat.le_refl _, HR.out.lt, .inr ⟨_, _, len, rfl, Nat.le_refl _, Nat.le_refl _, HR.out, fun i hi => HF.out i _ (by omega) (by rw [List.getElem?_eq_getElem (by rw [HL.out]; exact hi)]; simp [List.getD, List.getElem?_eq_getElem (show i < zs.length by rw [HL.out]; exact hi)])⟩, HB.out⟩


theorem holI_mtrans {w1 w2 w3 : World} {r : Option Nat} (h : w1.grownBy w2 r) (h' : w2.grownBy w3 r) : w1.grownBy w3 r :=
  ⟨h'.os.trans h.os, h'.tape.trans h.tape, h'.output.trans h.output, Nat.le_trans h.size h'.size, fun k hk hne => (h'.block k (Nat.lt_of_lt_of_le hk h.size) hne).trans (h.block k hk hne)⟩
theorem holI_mcell (w : World) (b k : Nat) (v : Value) : w.grownBy (w.setCell ⟨b, k, none⟩ v) (some b) :=
  ⟨rfl, rfl, rfl, by simp, fun j _ hne => Below.heap_setCell w ⟨b, k, none⟩ v j (fun e => hne (by rw [e]))⟩
theorem grown_set9 {w0 w : World} {b k : Nat} {v : Value} (h : w0.grownBy w (some b)) : w0.grownBy (w.setCell ⟨b, k, none⟩ v) (some b) := holI_mtrans h (holI_mcell _ _ _ _)
/-- marked; only the slice's own block has turned -/
def MarkedG (B : Nat) (a : Option Addr) (len : Nat) (k : Int) (w : World) (e : Ending) (w' : World) : Prop :=
  e = .returned (.int .i64 (k + len)) ∧ OwnI B w' a len (fun i => k + i) ∧ Below B w w' ∧ (w' = w ∨ ∃ b, a = some ⟨b, 0, none⟩ ∧ w.grownBy w' (some b))
set_option maxRecDepth 100000 in
set_option maxHeartbeats 400000 in
theorem markInt64S_grown (B : Nat) (a : Option Addr) (len cap : Nat) (g : Nat → Int) (k : Int) (w : World) (hl : len ≤ 1000000000) (h0 : 0 < k) (h1 : k ≤ 1000000000) (h : OwnI B w a len g) :
    Calls Tryd.prog 31 #[.slice a len cap, .int .i64 k] w (MarkedG B a len k w) := by
  rcases h with rfl | ⟨b, f, N, rfl, hb, hN, hr, hf⟩
  · go_enter Tryd.func31, Tryd.ntmps31
    go_wp2
    go_loopw [1, 5] (fun kk i wr => i = .int .i64 0 ∧ kk = .int .i64 k ∧ wr = w) (fun _ _ _ => 0)
    case atStart => exact ⟨rfl, rfl, rfl⟩
    case round =>
      obtain ⟨rfl, rfl, rfl⟩ := hrel
      go_wp2
      go_ret
      exact ⟨ret_i64 (by simp), .inl rfl, Below.refl _ _, .inl rfl⟩
  · have HR := Lib.hid hr; clear hr hf
    go_enter Tryd.func31, Tryd.ntmps31
    go_wp2
    go_loopw [1, 5] (fun kk i wr => ∃ n : Nat, n ≤ len ∧ i = .int .i64 n ∧ kk = .int .i64 (k + n) ∧ w.grownBy wr (some b) ∧ Below B w wr ∧ ∃ f, wr.rowIs b 2 N f ∧ ∀ i, i < n → f i = .int .i64 (k + i)) (fun _ i _ => len - (intOf i).toNat)
    case atStart => exact ⟨0, Nat.zero_le _, rfl, by simp, ⟨rfl, rfl, rfl, Nat.le_refl _, fun _ _ _ => rfl⟩, Below.refl _ _, _, HR.out, fun i hi => by omega⟩
    case round =>
      obtain ⟨n, hn, rfl, rfl, hsz, hW, f, hr, hf⟩ := hrel
      have HG := Lib.hid hsz; have HW := Lib.hid hW; have HR := Lib.hid hr; have HF := Lib.hid hf; clear hsz hW hr hf
      by_cases hlt : n < len
      · have hc2 := HR.out.cell (Nat.lt_of_lt_of_le hlt hN)
        have hf2 := HR.out.frozen n
        go_wp2_with fail
        go_roundw
        case rel => exact ⟨n + 1, by omega, by go_num, by rw [show k + (n : Int) + 1 = k + ((n + 1 : Nat) : Int) by omega], grown_set9 HG.out, HW.out.setCell hb _, _, HR.out.set _ _, markI_step HF.out⟩
        case measure => simp [intOf]; omega
      · have HN := Lib.hid (show n = len by omega)
        go_wp2
        go_ret
        exact ⟨ret_i64 (by rw [HN.out]), .inr ⟨b, f, N, rfl, hb, hN, HR.out, fun i hi => HF.out i (by rw [HN.out]; exact hi)⟩, HW.out, .inr ⟨b, rfl, HG.out⟩⟩

end Go.Proofs.YtchffaohmeaccaaDoor
