/- Plain facts on decimal texts for chapter 1. No program is imported here. -/
import Derived.Test.YtdeiillfdjebdaaPure2
import Derived.Test.YtdeiillfdjebdaaPure3
import Derived.WalkKit
import Derived.Lib.ItoaMem
import Derived.Lib.ItoaLen
import Derived.Lib.LaidTab
import Derived.WalkSmall
import Derived.Laws.BytesString
import Derived.Laws.Cells
namespace Go.Proofs.Ytdeiillfdjebdaa.Pure4
open Go.RowKit Pure2 Pure3

/-- a number in decimal -/
def decB (n : Int) : ByteArray := ⟨(Lib.itoa n).toArray⟩
/-- one digit's text -/
def dig1 (n : Int) : ByteArray := ⟨#[UInt8.ofNat (48 + n).toNat]⟩
theorem dig1_nat (u : Nat) : dig1 u = ⟨#[UInt8.ofNat (48 + u)]⟩ := by unfold dig1; rw [show (48 + (u : Int)).toNat = 48 + u by omega]
theorem decB_small {n : Int} (h0 : 0 ≤ n) (h : n < 10) : decB n = dig1 n := by
  obtain ⟨u, rfl⟩ := Int.eq_ofNat_of_zero_le h0
  rw [dig1_nat]
  unfold decB
  rw [Lib.itoa_nonneg, Lib.decDigits_one (by omega)]
theorem decB_big {n : Int} (h : 10 ≤ n) : decB n = decB (n / 10) ++ dig1 (n % 10) := by
  obtain ⟨u, rfl⟩ := Int.eq_ofNat_of_zero_le (by omega : 0 ≤ n)
  have e1 : ((u : Int) / 10) = ((u / 10 : Nat) : Int) := by omega
  have e2 : ((u : Int) % 10) = ((u % 10 : Nat) : Int) := by omega
  rw [e1, e2, dig1_nat]
  unfold decB
  rw [Lib.itoa_nonneg, Lib.itoa_nonneg, Lib.decDigits, dif_neg (by omega)]
  exact (ByteArray.mk_append_mk _ _).symm
theorem decB_size {n : Int} (h0 : -9223372036854775808 ≤ n) (h1 : n ≤ 9223372036854775807) : (decB n).size ≤ 21 := by
  show (Lib.itoa n).toArray.size ≤ 21
  rw [List.size_toArray]; exact Lib.itoa_length_le n h0 h1
theorem dig1_size (n : Int) : (dig1 n).size = 1 := rfl
theorem decB_neg {n : Int} (h : 1 ≤ n) : decB (-n) = ⟨#[45]⟩ ++ decB n := by
  obtain ⟨u, rfl⟩ := Int.eq_ofNat_of_zero_le (by omega : 0 ≤ n)
  unfold decB
  rw [Lib.itoa_neg u (by omega), Lib.itoa_nonneg]
  exact (ByteArray.mk_append_mk [45] _).symm

/-- cents, at least 0 -/
def moneyB (n : Int) : ByteArray := decB (n / 100) ++ ⟨#[46]⟩ ++ dig1 (n % 100 / 10) ++ dig1 (n % 10)
/-- cents, with a sign -/
def moneyT (n : Int) : ByteArray := if n < 0 then ⟨#[45]⟩ ++ moneyB (-n) else moneyB n
/-- two digits -/
def twoB (n : Int) : ByteArray := dig1 (n / 10) ++ dig1 (n % 10)
theorem ba_assoc (a b c : ByteArray) : a ++ b ++ c = a ++ (b ++ c) := ByteArray.append_assoc
theorem ba_nil (a : ByteArray) : (⟨#[]⟩ : ByteArray) ++ a = a := by
  apply ByteArray.ext; simp [ByteArray.data_append]
theorem twoB_small {n : Int} (h0 : 0 ≤ n) (h : n < 10) : (⟨#[48]⟩ : ByteArray) ++ decB n = twoB n := by
  have e1 : n / 10 = 0 := by omega
  have e2 : n % 10 = n := by omega
  unfold twoB
  rw [e1, e2, decB_small h0 h]; rfl
theorem twoB_big {n : Int} (h0 : 10 ≤ n) (h : n < 100) : decB n = twoB n := by
  rw [decB_big h0, decB_small (by omega) (by omega)]; rfl
theorem twoB_size (n : Int) : (twoB n).size = 2 := rfl
theorem money_impl {n : Int} (_h : 0 ≤ n) : decB (n / 100) ++ ⟨#[46]⟩ ++ twoB (n % 100) = moneyB n := by
  unfold twoB moneyB
  rw [show n % 100 % 10 = n % 10 by omega, ba_assoc _ (dig1 _) (dig1 _)]
theorem moneyB_size {n : Int} (h0 : 0 ≤ n) (h1 : n ≤ 9223372036854775807) : (moneyB n).size ≤ 24 := by
  unfold moneyB
  rw [ByteArray.size_append, ByteArray.size_append, ByteArray.size_append, dig1_size, dig1_size]
  have := decB_size (n := n / 100) (by omega) (by omega)
  have e : (⟨#[46]⟩ : ByteArray).size = 1 := rfl
  omega
theorem moneyT_size {n : Int} (h0 : -9223372036854775807 ≤ n) (h1 : n ≤ 9223372036854775807) : (moneyT n).size ≤ 25 := by
  unfold moneyT
  split
  · rw [ByteArray.size_append]
    have := moneyB_size (n := -n) (by omega) (by omega)
    have e : (⟨#[45]⟩ : ByteArray).size = 1 := rfl
    omega
  · have := moneyB_size (n := n) (by omega) (by omega); omega
theorem moneyT_neg {n : Int} (h : n < 0) : moneyT n = ⟨#[45]⟩ ++ moneyB (-n) := by rw [moneyT, if_pos h]
theorem moneyT_pos {n : Int} (h : 0 ≤ n) : moneyT n = moneyB n := by rw [moneyT, if_neg (by omega)]
/-- the text of cents and the error -/
def moneyText (n : Int) : ByteArray × Int := if isVal n = true then (moneyT n, 0) else (⟨#[]⟩, 2)

/-- the text of a list of numbers -/
def listT (zs : List Int) : ByteArray := wordsT (zs.map decB)
theorem listT_some {zs : List Int} (h : zs ≠ []) : listT zs = joinB (zs.map decB) comma := by
  rw [listT, wordsT, if_neg (by simpa using h)]
def listText (zs : List Int) : ByteArray × Int := if listErr zs = 0 then (listT zs, 0) else (⟨#[]⟩, listErr zs)
theorem decB_val {x : Int} (h : isVal x = true) : (decB x).size ≤ 21 := by
  have := (isVal_iff x).1 h; exact decB_size (by omega) (by omega)
theorem numTexts_size (zs : List Int) (h : zs.all isVal = true) : szs (zs.map decB) ≤ 21 * zs.length := by
  induction zs with
  | nil => simp [szs]
  | cons x r ih =>
    simp only [List.all_cons, Bool.and_eq_true] at h
    have h1 := decB_val h.1; have h2 := ih h.2
    simp only [List.map_cons, szs, List.length_cons]; omega
theorem joinN_size (zs : List Int) (sep : ByteArray) (k : Nat) (h : zs.all isVal = true) (hl : zs.length ≤ 1000000) (hs : sep.size ≤ 100) : (joinB ((zs.map decB).take k) sep).size ≤ 121000000 := by
  have h1 := joinB_size ((zs.map decB).take k) sep
  have h2 := numTexts_size zs h
  have h2' := szs_take (zs.map decB) k
  have h3 : ((zs.map decB).take k).length ≤ zs.length := by rw [List.length_take, List.length_map]; omega
  have h4 : sep.size * ((zs.map decB).take k).length ≤ 100 * 1000000 := Nat.mul_le_mul hs (by omega)
  omega
theorem take_map_snoc {zs : List Int} {k : Nat} {x : Int} (ht : zs.take (k + 1) = zs.take k ++ [x]) : (zs.map decB).take (k + 1) = (zs.map decB).take k ++ [decB x] := by
  rw [← List.map_take, ht, List.map_append, List.map_singleton, List.map_take]

/-- 'string([]byte{c})': the text of one byte -/
theorem run_string_one {P : Program} (src dst e : TypeId) (hs : P.underlying src = some (.slice e)) (he : P.underlying e = some (.int .u8)) (hd : P.underlying dst = some .string)
    (w : World) (b : Nat) (m : Int) (c : Nat) (hc : w.cell? ⟨b, 0, none⟩ = some (.int .u8 m)) :
    (convert src dst (.slice (some ⟨b, 0, none⟩) 1 c)).run P w = .ok (.string ⟨#[UInt8.ofNat m.toNat]⟩) w := by
  rw [run_convert_bytes_string w src dst e _ _ _ hs he hd, run_bytesToString w ⟨b, 0, none⟩ 1 c [m] (by
    have := run_loadCells_list (P := P) (w := w) ⟨b, 0, none⟩ [.int .u8 m] (fun j v hj => by
      cases j with
      | zero => simp at hj; subst hj; simpa [Addr.add] using hc
      | succ j => simp at hj)
    simpa using this)]
  rfl

/-- the mark with the number k -/
def mk (k : Int) : ByteArray := ⟨#[109]⟩ ++ decB k
/-- the state of the loop that writes a mark's digits -/
def MkMid (k c : Int) (o : ByteArray) : Prop := if c = 0 then o = decB k else decB c ++ o = decB k
theorem MkMid.start (k : Int) (h : 0 < k) : MkMid k k ⟨#[]⟩ := by
  unfold MkMid; rw [if_neg (by omega)]; apply ByteArray.ext; simp [ByteArray.data_append]
theorem MkMid.step {k c : Int} {o : ByteArray} (h : MkMid k c o) (hc : 0 < c) : MkMid k (c / 10) (dig1 (c % 10) ++ o) := by
  unfold MkMid at h ⊢
  rw [if_neg (by omega)] at h
  by_cases h10 : c < 10
  · rw [if_pos (by omega), show c % 10 = c by omega, ← decB_small (by omega) h10, h]
  · rw [if_neg (by omega), ← ba_assoc, ← decB_big (by omega), h]
theorem MkMid.size {k c : Int} {o : ByteArray} (h : MkMid k c o) (h0 : 0 ≤ k) (h1 : k ≤ 9223372036854775807) : o.size ≤ 21 := by
  have hs := decB_size (n := k) (by omega) h1
  unfold MkMid at h
  split at h
  · rw [h]; exact hs
  · have := congrArg ByteArray.size h; rw [ByteArray.size_append] at this; omega
theorem MkMid.fin {k : Int} {o : ByteArray} (h : MkMid k 0 o) : (⟨#[109]⟩ : ByteArray) ++ o = mk k := by
  unfold MkMid at h; rw [if_pos rfl] at h; rw [h]; rfl
theorem mk_size {k : Int} (h0 : 0 ≤ k) (h1 : k ≤ 9223372036854775807) : (mk k).size ≤ 22 := by
  unfold mk; rw [ByteArray.size_append]
  have := decB_size (n := k) (by omega) h1
  have e : (⟨#[109]⟩ : ByteArray).size = 1 := rfl
  omega

/-- a world in which the library's table of powers of ten lies -/
def Tabs (P : Program) (w : World) : Prop := Lib.TabIs P w "internal/strconv.uint64pow10" .u64 Lib.pow10Tab
theorem Tabs.below {P : Program} {g : Nat} (hg : P.globalNamed "internal/strconv.uint64pow10" = some g) {w w' : World} (h : Tabs P w) (hb : Below w.heap.size w w') : Tabs P w' := by
  have hlt : g < w.heap.size := World.block_lt_of_cell? w _ (Lib.TabIs.cell h hg 0 (by decide))
  exact var?_below hb hg hlt h

theorem bcell {W w1 : World} (hb : Below W.heap.size W w1) : (∀ b o, b < W.heap.size → w1.cell? ⟨b, o, none⟩ = W.cell? ⟨b, o, none⟩) ∧ (∀ b o, b < W.heap.size → w1.frozen? ⟨b, o, none⟩ = W.frozen? ⟨b, o, none⟩) :=
  ⟨fun b o h => hb.cell (p := ⟨b, o, none⟩) h, fun b o h => hb.frozen (p := ⟨b, o, none⟩) h⟩
/-- Behind the library's own writes into new blocks. -/
theorem below_grow (w : World) (k : Nat) (os : Array Obj) : Below w.heap.size w (Go.Sort.grow (w.drewN k) os) :=
  ⟨rfl, rfl, rfl, by show w.heap.size ≤ (w.heap ++ os).size; rw [Array.size_append]; omega, fun i hi => Go.Sort.heap_grow_old (w.drewN k) os hi⟩

end Go.Proofs.Ytdeiillfdjebdaa.Pure4
