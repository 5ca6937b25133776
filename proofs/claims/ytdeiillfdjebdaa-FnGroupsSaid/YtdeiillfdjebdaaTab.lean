/- Tables of numbers (slices of slices of int64): how they are read, tables of the call's own, and the laws' own helpers on them: eqInt64SS, markInt64SS, heldInt64SS. -/
import Derived.Test.YtdeiillfdjebdaaChecked
import Derived.Test.YtdeiillfdjebdaaBase
import Derived.Test.YtdeiillfdjebdaaMarkI
import Derived.Test.YtdeiillfdjebdaaEqInt
import Derived.Test.YtdeiillfdjebdaaPersSlice
import Derived.WalkKit
import Derived.WalkSpells
import Derived.WalkLawsBesides
import Derived.Lib.Hide
import Derived.Lib.QuietBelow
import Derived.IntWalk
import Derived.Deep.OwnRows
import Derived.Deep.QuietTactic
import Derived.BigQuiet
import Derived.Outline
namespace Go.Proofs.Ytdeiillfdjebdaa
open Go.RowKit Go.Sort Pure2

/-- the slice at address a reads the table xss -/
def TabAt (w : World) (a : Option Addr) (xss : List (List Int)) : Prop :=
  xss = [] ∨ ∃ b off, a = some ⟨b, off, none⟩ ∧ ∀ (i : Nat) (xs : List Int), xss[i]? = some xs → ∃ a' cap', w.cell? ⟨b, off + i, none⟩ = some (.slice a' xs.length cap') ∧ IntsAt w a' xs
theorem TabAt.below {w w' : World} {a : Option Addr} {xss : List (List Int)} (h : TabAt w a xss) (hb : Below w.heap.size w w') : TabAt w' a xss := by
  rcases h with rfl | ⟨b, off, rfl, hc⟩
  · exact .inl rfl
  · exact .inr ⟨b, off, rfl, fun i xs hx => by obtain ⟨a', c', h1, h2⟩ := hc i xs hx; exact ⟨a', c', cell_later hb h1, h2.below hb⟩⟩
theorem TabAt.at {w : World} {a : Option Addr} {xss : List (List Int)} (h : TabAt w a xss) {k len : Nat} (hl : xss.length = len) (hk : k < len) :
    ∃ b off a' cap' xs, a = some ⟨b, off, none⟩ ∧ w.cell? ⟨b, off + k, none⟩ = some (.slice a' xs.length cap') ∧ IntsAt w a' xs ∧ xss[k]? = some xs := by
  have hx : xss[k]? = some xss[k] := List.getElem?_eq_getElem (by omega)
  rcases h with rfl | ⟨b, off, rfl, hc⟩
  · simp at hl; omega
  · obtain ⟨a', c', h1, h2⟩ := hc k _ hx
    exact ⟨b, off, a', c', _, rfl, h1, h2, hx⟩
/-- the rows are no longer than a slice may be -/
def SmallT (xss : List (List Int)) : Prop := ∀ xs ∈ xss, xs.length ≤ maxLen
theorem sameB {P : Program} {f : FuncId} {args : Array Value} {w : World} {xs : List Int} (h : Calls P f args w (SaysB (sameL xs xs) w)) : Calls P f args w fun e w' => e = .returned (.bool true) ∧ Below w.heap.size w w' :=
  h.mono (by rintro e w' ⟨rfl, n, rfl⟩; rw [sameL_self]; exact ⟨rfl, Go.below_drewN (Below.refl _ _) n⟩)

/-- a row: its address, its length, its spare room -/
abbrev RowOf := Option Addr × Nat × Nat
def rowVal (r : RowOf) : Value := .slice r.1 r.2.1 r.2.2
/-- the blocks of the rows are different ones -/
def Apart (rows : List RowOf) : Prop := ∀ (i j : Nat) (r s : RowOf) (x y : Addr), i < j → rows[i]? = some r → rows[j]? = some s → r.2.1 ≠ 0 → s.2.1 ≠ 0 → r.1 = some x → s.1 = some y → x.block ≠ y.block
/-- each row is one of the call's own; g tells its numbers -/
def OwnRows (B : Nat) (w : World) (rows : List RowOf) (g : Nat → Nat → Int) : Prop := ∀ (i : Nat) (r : RowOf), rows[i]? = some r → OwnI B w r.1 r.2.1 (g i)
/-- a table of the call's own (from block B on) -/
def OwnTab (B : Nat) (w : World) (a : Option Addr) (rows : List RowOf) (g : Nat → Nat → Int) : Prop :=
  rows = [] ∨ ∃ b f N, a = some ⟨b, 0, none⟩ ∧ B ≤ b ∧ rows.length ≤ N ∧ w.rowIs b 37 N f ∧ (∀ (i : Nat) (r : RowOf), rows[i]? = some r → f i = rowVal r) ∧ OwnRows B w rows g ∧ Apart rows
theorem OwnRows.below {B : Nat} {w w' : World} {rows : List RowOf} {g : Nat → Nat → Int} (h : OwnRows B w rows g) (hb : Below w.heap.size w w') : OwnRows B w' rows g := fun i r hr => (h i r hr).below hb
theorem OwnTab.below {B : Nat} {w w' : World} {a : Option Addr} {rows : List RowOf} {g : Nat → Nat → Int} (h : OwnTab B w a rows g) (hb : Below w.heap.size w w') : OwnTab B w' a rows g := by
  rcases h with rfl | ⟨b, f, N, rfl, hB, hN, hr, hf, ho, ha⟩
  · exact .inl rfl
  · exact .inr ⟨b, f, N, rfl, hB, hN, hr.of_block (hb.block b hr.lt), hf, ho.below hb, ha⟩
/-- the numbers of a table by their places -/
def tabG (xss : List (List Int)) (i j : Nat) : Int := ((xss[i]?).getD []).getD j 0
/-- rows that have the lengths of a table's rows -/
def Fit (rows : List RowOf) (xss : List (List Int)) : Prop := rows.length = xss.length ∧ ∀ (i : Nat) (r : RowOf) (xs : List Int), rows[i]? = some r → xss[i]? = some xs → r.2.1 = xs.length
theorem tabG_at {xss : List (List Int)} {i : Nat} {xs : List Int} (h : xss[i]? = some xs) : tabG xss i = fun j => xs.getD j 0 := by funext j; simp [tabG, h]
theorem ownTab_reads {B : Nat} {w : World} {a : Option Addr} {rows : List RowOf} {xss : List (List Int)} (hf : Fit rows xss) (h : OwnTab B w a rows (tabG xss)) : TabAt w a xss := by
  rcases h with rfl | ⟨b, f, N, rfl, hB, hN, hr, hv, ho, ha⟩
  · have := hf.1; exact .inl (List.length_eq_zero_iff.1 this.symm)
  · refine .inr ⟨b, 0, rfl, fun i xs hx => ?_⟩
    have hi := (List.getElem?_eq_some_iff.1 hx).1
    have hi' : i < rows.length := by rw [hf.1]; exact hi
    have hrow : rows[i]? = some rows[i] := List.getElem?_eq_getElem hi'
    have hlen := hf.2 i _ xs hrow hx
    have h1 := ho i _ hrow
    rw [tabG_at hx, hlen] at h1
    refine ⟨(rows[i]).1, (rows[i]).2.2, ?_, ownI_reads h1⟩
    rw [Nat.zero_add, hr.cell (by omega), hv i _ hrow, rowVal, hlen]
theorem OwnTab.at {B : Nat} {w : World} {a : Option Addr} {rows : List RowOf} {g : Nat → Nat → Int} (h : OwnTab B w a rows g) {n : Nat} {r : RowOf} (hn : rows[n]? = some r) :
    ∃ b, a = some ⟨b, 0, none⟩ ∧ w.cell? ⟨b, n, none⟩ = some (.slice r.1 r.2.1 r.2.2) ∧ OwnI B w r.1 r.2.1 (g n) := by
  rcases h with rfl | ⟨b, f, N, rfl, hB, hN, hr, hv, ho, ha⟩
  · simp at hn
  · have hi := (List.getElem?_eq_some_iff.1 hn).1
    exact ⟨b, rfl, by rw [hr.cell (by omega), hv n _ hn]; rfl, ho n r hn⟩
/-- how many numbers stand in the rows ahead of one -/
def offs (rows : List RowOf) : Nat → Nat
  | 0 => 0
  | i + 1 => offs rows i + (match rows[i]? with | some r => r.2.1 | none => 0)
theorem offs_succ {rows : List RowOf} {i : Nat} {r : RowOf} (h : rows[i]? = some r) : offs rows (i + 1) = offs rows i + r.2.1 := by simp [offs, h]
theorem offs_mono {rows : List RowOf} {i j : Nat} (h : i ≤ j) : offs rows i ≤ offs rows j := by
  induction h with
  | refl => exact Nat.le_refl _
  | step _ ih => exact Nat.le_trans ih (by simp [offs])
/-- how many numbers a table has -/
def total (xss : List (List Int)) : Nat := (xss.map List.length).sum
theorem offs_total {rows : List RowOf} {xss : List (List Int)} (hf : Fit rows xss) : ∀ i, i ≤ rows.length → offs rows i = total (xss.take i)
  | 0, _ => by simp [offs, total]
  | i + 1, h => by
    have hr : rows[i]? = some rows[i] := List.getElem?_eq_getElem (by omega)
    have hx : xss[i]? = some (xss[i]'(by have := hf.1; omega)) := List.getElem?_eq_getElem (by have := hf.1; omega)
    rw [offs_succ hr, offs_total hf i (by omega), hf.2 i _ _ hr hx, List.take_add_one, hx]
    simp only [total, List.map_append, List.sum_append, Option.toList, List.map_cons, List.map_nil, List.sum_cons, List.sum_nil, Nat.add_zero]
theorem offs_all {rows : List RowOf} {xss : List (List Int)} (hf : Fit rows xss) : offs rows rows.length = total xss := by
  rw [offs_total hf _ (Nat.le_refl _), hf.1, List.take_length]
/-- the marks of a table's rows -/
def mkT (rows : List RowOf) (k : Int) (i j : Nat) : Int := k + offs rows i + j

/-- what a row's store leaves of the others -/
theorem own_other {B : Nat} {w w' : World} {a : Option Addr} {len : Nat} {g : Nat → Int} (h : OwnI B w a len g) (hb : len ≠ 0 → ∀ x, a = some x → w'.heap[x.block]? = w.heap[x.block]?) : OwnI B w' a len g := by
  by_cases hz : len = 0
  · exact .inl hz
  · rcases h with h | ⟨b, f, N, rfl, hB, hN, hr, hf⟩
    · exact .inl h
    · exact .inr ⟨b, f, N, rfl, hB, hN, hr.of_block (hb hz _ rfl), hf⟩

theorem own_if {B : Nat} {w : World} {a : Option Addr} {len : Nat} {g g' : Nat → Int} {i n : Nat} (h : OwnI B w a len (if i < n then g else g')) (hi : i ≠ n) : OwnI B w a len (if i < n + 1 then g else g') := by
  by_cases e : i < n
  · rw [if_pos e] at h; rw [if_pos (by omega)]; exact h
  · rw [if_neg e] at h; rw [if_neg (by omega)]; exact h
theorem own_lt {B : Nat} {w : World} {a : Option Addr} {len : Nat} {g : Nat → Int} {x : Addr} (h : OwnI B w a len g) (hx : a = some x) (hz : len ≠ 0) : x.block < w.heap.size := by
  rcases h with h | ⟨b, f, N, e, _, _, hr, _⟩
  · exact absurd h hz
  · rw [hx] at e; cases e; exact hr.lt
theorem row_types {w : World} {b N N2 : Nat} {f f2 : Nat → Value} (hr2 : w.rowIs b 2 N2 f2) (hr : w.rowIs b 37 N f) : False := by
  obtain ⟨c, h1, _⟩ := hr
  obtain ⟨c2, h2, _⟩ := hr2
  rw [h1] at h2
  cases h2

/-- only one block has turned -/
def OnlyI (a : Option Addr) (len : Nat) (w w' : World) : Prop := w.heap.size ≤ w'.heap.size ∧ ∀ k, k < w.heap.size → (len ≠ 0 → ∀ x, a = some x → x.block ≠ k) → w'.heap[k]? = w.heap[k]?

set_option maxRecDepth 100000 in
set_option maxHeartbeats 400000 in
/-- marking a row turns no other block -/
theorem markInt64S_only (B : Nat) (a : Option Addr) (len cap : Nat) (g : Nat → Int) (k : Int) (w : World) (hl : len ≤ 1000000000) (h0 : 0 < k) (h1 : k ≤ 1000000000) (h : OwnI B w a len g) :
    Calls Try.prog 48 #[.slice a len cap, .int .i64 k] w (fun e w' => MarkedI B a len k w e w' ∧ OnlyI a len w w') := by
  rcases h with rfl | ⟨b, f, N, rfl, hb, hN, hr, hf⟩
  · go_enter Try.func48, Try.ntmps48
    go_wp2
    go_loopw [1, 5] (fun kk i wr => i = .int .i64 0 ∧ kk = .int .i64 k ∧ wr = w) (fun _ _ _ => 0)
    case atStart => exact ⟨rfl, rfl, rfl⟩
    case round =>
      obtain ⟨rfl, rfl, rfl⟩ := hrel
      go_wp2
      go_ret
      exact ⟨⟨ret_i64 (by simp), .inl rfl, Below.refl _ _, Nat.le_refl _⟩, Nat.le_refl _, fun _ _ _ => rfl⟩
  · have HR := Lib.hid hr; clear hr hf
    go_enter Try.func48, Try.ntmps48
    go_wp2
    go_loopw [1, 5] (fun kk i wr => ∃ n : Nat, n ≤ len ∧ i = .int .i64 n ∧ kk = .int .i64 (k + n) ∧ OnlyI (some ⟨b, 0, none⟩) len w wr ∧ Below B w wr ∧ ∃ f, wr.rowIs b 2 N f ∧ ∀ i, i < n → f i = .int .i64 (k + i)) (fun _ i _ => len - (intOf i).toNat)
    case atStart => exact ⟨0, Nat.zero_le _, rfl, by simp, ⟨Nat.le_refl _, fun _ _ _ => rfl⟩, Below.refl _ _, _, HR.out, fun i hi => by omega⟩
    case round =>
      obtain ⟨n, hn, rfl, rfl, hsz, hW, f, hr, hf⟩ := hrel
      have HW := Lib.hid hW; have HR := Lib.hid hr; have HF := Lib.hid hf; have HS := Lib.hid hsz; clear hW hr hf hsz
      by_cases hlt : n < len
      · have hc2 := HR.out.cell (Nat.lt_of_lt_of_le hlt hN)
        have hf2 := HR.out.frozen n
        go_wp2_with fail
        go_roundw
        case rel => exact ⟨n + 1, by omega, by go_num, by rw [show k + (n : Int) + 1 = k + ((n + 1 : Nat) : Int) by omega], ⟨by simpa using HS.out.1, fun j hj hne => (Below.heap_setCell wr ⟨b, n, none⟩ _ j (fun e => hne (by omega) _ rfl e.symm)).trans (HS.out.2 j hj hne)⟩, HW.out.setCell hb _, _, HR.out.set _ _, markI_step HF.out⟩
        case measure => simp [intOf]; omega
      · have HN := Lib.hid (show n = len by omega)
        go_wp2
        go_ret
        exact ⟨⟨ret_i64 (by rw [HN.out]), .inr ⟨b, f, N, rfl, hb, hN, HR.out, fun i hi => HF.out i (by rw [HN.out]; exact hi)⟩, HW.out, HS.out.1⟩, HS.out⟩

def MarkedT (B : Nat) (a : Option Addr) (rows : List RowOf) (k : Int) (w : World) (e : Ending) (w' : World) : Prop :=
  e = .returned (.int .i64 (k + offs rows rows.length)) ∧ OwnTab B w' a rows (mkT rows k) ∧ Below B w w' ∧ w.heap.size ≤ w'.heap.size

set_option maxRecDepth 100000 in
set_option maxHeartbeats 2000000 in
theorem markInt64SS_any (B : Nat) (a : Option Addr) (len cap : Nat) (rows : List RowOf) (g : Nat → Nat → Int) (k : Int) (w : World) (hl : rows.length = len) (hm : len ≤ 1000000) (ht : offs rows rows.length ≤ 1000000) (h0 : 0 < k) (h1 : k ≤ 1000000) (h : OwnTab B w a rows g) :
    Calls Try.prog 44 #[.slice a len cap, .int .i64 k] w (MarkedT B a rows k w) := by
  rcases h with rfl | ⟨b, f, N, rfl, hb, hN, hr, hv, ho, ha⟩
  · obtain rfl : len = 0 := hl.symm
    go_enter Try.func44, Try.ntmps44
    go_wp2
    go_loopw [1, 5] (fun kk i wr => i = .int .i64 0 ∧ kk = .int .i64 k ∧ wr = w) (fun _ _ _ => 0)
    case atStart => exact ⟨rfl, rfl, rfl⟩
    case round =>
      obtain ⟨rfl, rfl, rfl⟩ := hrel
      go_wp2
      go_ret
      exact ⟨ret_i64 (by simp [offs]), .inl rfl, Below.refl _ _, Nat.le_refl _⟩
  · subst hl
    have HV := Lib.hid hv; have HA := Lib.hid ha; have HR := Lib.hid hr; have HO := Lib.hid ho; clear hv ha hr ho
    go_enter Try.func44, Try.ntmps44
    go_wp2
    go_loopw [1, 5] (fun kk i wr => ∃ n : Nat, n ≤ rows.length ∧ i = .int .i64 n ∧ kk = .int .i64 (k + offs rows n) ∧ w.heap.size ≤ wr.heap.size ∧ Below B w wr ∧ wr.rowIs b 37 N f ∧ OwnRows B wr rows (fun i => if i < n then mkT rows k i else g i)) (fun _ i _ => rows.length - (intOf i).toNat)
    case atStart => exact ⟨0, Nat.zero_le _, rfl, by simp [offs], Nat.le_refl _, Below.refl _ _, HR.out, fun i r hi => by show OwnI B w r.1 r.2.1 (if i < 0 then mkT rows k i else g i); rw [if_neg (by omega)]; exact HO.out i r hi⟩
    case round =>
      obtain ⟨n, hn, rfl, rfl, hsz, hW, hr, ho⟩ := hrel
      have HW := Lib.hid hW; have HR := Lib.hid hr; have HO := Lib.hid ho; clear hW hr ho
      by_cases hlt : n < rows.length
      · have hrow : rows[n]? = some rows[n] := List.getElem?_eq_getElem hlt
        generalize rows[n] = r at hrow
        have HRow := Lib.hid hrow
        have hoff := offs_succ hrow
        have hmon := offs_mono (rows := rows) (show n + 1 ≤ rows.length by omega)
        obtain ⟨ra, rl, rc⟩ := r
        simp only at hoff
        have hc : wr.cell? ⟨b, n, none⟩ = some (.slice ra rl rc) := by rw [HR.out.cell (by omega), HV.out n _ hrow]; rfl
        have HC := Lib.hid (markInt64S_only B ra rl rc _ (k + offs rows n) wr (by omega) (by omega) (by omega) (HO.out n _ hrow))
        clear hrow
        go_wp2_with fail
        refine HC.out.mono ?_; rintro e w1 ⟨⟨rfl, hO1, hB1, hsz1⟩, hon⟩
        have HB1 := Lib.hid (HW.out.trans hB1); have HO1 := Lib.hid hO1; have HN1 := Lib.hid hon
        have hsz2 : w.heap.size ≤ w1.heap.size := Nat.le_trans hsz hsz1
        clear hc hB1 hO1 hon
        have HR1 := Lib.hid (show w1.rowIs b 37 N f from HR.out.of_block (HN1.out.2 b HR.out.lt (fun hz x hx e => by
          have h2 := HO.out n _ HRow.out
          rcases h2 with h2 | ⟨b2, f2, N2, e2, _, _, hr2, _⟩
          · exact hz h2
          · rw [show (ra, rl, rc).1 = ra from rfl, hx] at e2; cases e2
            simp only at e; subst e
            exact row_types hr2 HR.out)))
        go_wp2_with fail
        go_roundw
        case rel => exact ⟨n + 1, by omega, by go_num, by congr 1; omega, hsz2, HB1.out, HR1.out, fun i r hi => (by
          by_cases e : i = n
          · subst e
            rw [HRow.out] at hi; cases hi
            show OwnI B w1 ra rl (if i < i + 1 then mkT rows k i else g i)
            rw [if_pos (by omega)]
            exact HO1.out
          · have h2 : OwnI B wr r.1 r.2.1 (if i < n then mkT rows k i else g i) := HO.out i r hi
            show OwnI B w1 r.1 r.2.1 (if i < n + 1 then mkT rows k i else g i)
            refine own_if (own_other h2 (fun hz x hx => HN1.out.2 x.block (own_lt h2 hx hz) (fun hz2 y hy e2 => ?_))) (by omega)
            · by_cases e3 : i < n
              · exact HA.out i n r _ x y e3 hi HRow.out hz hz2 hx hy e2.symm
              · exact HA.out n i _ r y x (by omega) HRow.out hi hz2 hz hy hx e2)⟩
        case measure => simp [intOf]; omega
      · have HN := Lib.hid (show n = rows.length by omega)
        go_wp2_with fail
        go_ret
        exact ⟨ret_i64 (by rw [HN.out]), .inr ⟨b, f, N, rfl, hb, hN, HR.out, HV.out, fun i r hi => (by
          have h2 : OwnI B wr r.1 r.2.1 (if i < n then mkT rows k i else g i) := HO.out i r hi
          rw [if_pos (by have := (List.getElem?_eq_some_iff.1 hi).1; rw [HN.out]; exact this)] at h2
          exact h2), HA.out⟩, HW.out, hsz⟩

set_option maxRecDepth 100000 in
set_option maxHeartbeats 2000000 in
theorem heldInt64SS_any (B : Nat) (a : Option Addr) (len cap : Nat) (rows : List RowOf) (k : Int) (w : World) (hl : rows.length = len) (hm : len ≤ 1000000) (ht : offs rows rows.length ≤ 1000000) (h0 : 0 < k) (h1 : k ≤ 1000000) (h : OwnTab B w a rows (mkT rows k)) :
    Calls Try.prog 45 #[.slice a len cap, .int .i64 k] w fun e w' => e = .returned (.int .i64 (k + offs rows rows.length)) ∧ w = w' := by
  subst hl
  have HO := Lib.hid h; clear h
  go_enter Try.func45, Try.ntmps45
  go_wp2
  go_loop [1, 5] (fun kk i => ∃ n : Nat, n ≤ rows.length ∧ i = .int .i64 n ∧ kk = .int .i64 (k + offs rows n)) (fun _ i => rows.length - (intOf i).toNat)
  case atStart => exact ⟨0, Nat.zero_le _, rfl, by simp [offs]⟩
  case round =>
    obtain ⟨n, hn, rfl, rfl⟩ := hrel
    by_cases hlt : n < rows.length
    · have hrow : rows[n]? = some rows[n] := List.getElem?_eq_getElem hlt
      generalize rows[n] = r at hrow
      have hoff := offs_succ hrow
      have hmon := offs_mono (rows := rows) (show n + 1 ≤ rows.length by omega)
      obtain ⟨ra, rl, rc⟩ := r
      simp only at hoff
      obtain ⟨b, hab, hc, ho⟩ := HO.out.at hrow
      simp only at hc ho
      have HC := Lib.hid (heldInt64S_any B ra rl rc (k + offs rows n) w (by omega) (by omega) (by omega) ho)
      subst hab
      clear hrow ho
      go_wp2_with fail
      refine HC.out.mono ?_; rintro e w' ⟨rfl, rfl⟩
      go_wp2_with fail
      go_round
      case rel => exact ⟨n + 1, by omega, by go_num, by congr 1; omega⟩
      case measure => simp [intOf]; omega
    · have HN := Lib.hid (show n = rows.length by omega)
      go_wp2_with fail
      go_ret
      exact ⟨ret_i64 (by rw [HN.out]), rfl⟩

set_option maxRecDepth 100000 in
set_option maxHeartbeats 2000000 in
/-- two tables that read the same are told to be the same -/
theorem eqInt64SS_same (a a' : Option Addr) (len cap cap' : Nat) (xss : List (List Int)) (w : World) (hl : xss.length = len) (hm : len ≤ 1048576) (hs : SmallT xss) (h : TabAt w a xss) (h' : TabAt w a' xss) :
    Calls Try.prog 41 #[.slice a len cap, .slice a' len cap'] w (fun e w' => e = .returned (.bool true) ∧ Below w.heap.size w w') := by
  have HL := Lib.hid hl; have HI := Lib.hid h; have HI' := Lib.hid h'; have HS := Lib.hid hs; clear hl h h' hs
  go_enter Try.func41, Try.ntmps41
  go_wp2
  go_loopw [5] (fun i wr => ∃ k : Nat, k ≤ len ∧ i = .int .i64 k ∧ Below w.heap.size w wr) (fun i _ => len - (intOf i).toNat)
  case atStart => exact ⟨0, Nat.zero_le _, rfl, Below.refl _ _⟩
  case round =>
    obtain ⟨k, hk, rfl, hB⟩ := hrel
    have HB := Lib.hid hB; clear hB
    by_cases hlt : k < len
    · obtain ⟨b, off, a1, c1, xs, rfl, hc, hx, hp⟩ := (HI.out.below HB.out).at HL.out hlt
      obtain ⟨b', off', a2, c2, ys, rfl, hc', hy, hp'⟩ := (HI'.out.below HB.out).at HL.out hlt
      obtain rfl : xs = ys := Option.some.inj (hp.symm.trans hp')
      have hsm : xs.length ≤ maxLen := HS.out xs (List.mem_of_getElem? hp)
      have hcall := regr_call (w := wr) (fun W hW => show Calls Try.prog 47 #[.slice a1 xs.length c1, .slice a2 xs.length c2] W _ from sameB (eqInt64S_any a1 a2 xs.length c1 xs.length c2 xs xs W rfl rfl hsm hsm (hx.below hW) (hy.below hW)))
      have k0 := cell_regrown hc; have k1 := cell_regrown hc'
      clear hx hy hp hp' hc hc' hsm
      go_wp2_with fail
      refine wp_region_quiet_below (by kernel_rfl) (by kernel_rfl) ?_
      iterate 10 (go_big_quiet_step (exact hcall _ _))
      refine wpQuiet_nil ?_
      intro _ hw'
      obtain ⟨⟨dq, osq⟩, hw''⟩ := hw'
      subst hw''
      have HB5 := Lib.hid (HB.out.trans ((below_regrown wr dq osq).mono HB.out.size))
      clear hcall k0 k1
      generalize grow (redrawn wr dq) osq = w5 at HB5 ⊢
      go_wp2_with fail
      go_roundw
      case rel => exact ⟨k + 1, by omega, by go_num, HB5.out⟩
      case measure => simp [intOf]; omega
    · go_wp2_with fail
      go_ret
      exact ⟨rfl, HB.out⟩

end Go.Proofs.Ytdeiillfdjebdaa
