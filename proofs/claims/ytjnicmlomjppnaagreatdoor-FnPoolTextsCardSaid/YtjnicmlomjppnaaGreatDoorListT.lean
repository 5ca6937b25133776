/- Contracts: spec.l01Number, spec.l01Join, spec.l01Text, spec.ListText and impl.ListText write numbers. -/
import Derived.Test.YtjnicmlomjppnaaGreatDoorChecked
import Derived.Test.YtjnicmlomjppnaaGreatDoorBase0
import Derived.Test.YtjnicmlomjppnaaGreatDoorVals
import Derived.Test.YtjnicmlomjppnaaGreatDoorListErr
import Derived.Test.YtjnicmlomjppnaaGreatDoorDec
import Derived.Test.YtjnicmlomjppnaaGreatDoorJoinP
import Derived.Test.YtjnicmlomjppnaaGreatDoorInfo
import Derived.WalkKit
import Derived.WalkSpells
import Derived.WalkLawsBesides
import Derived.Lib.Hide
import Derived.Deep.OwnRows
namespace Go.Proofs.YtjnicmlomjppnaaGreatDoor
open Go.RowKit Pure2 Pure3 Pure4

set_option maxHeartbeats 400000 in
theorem specNumber_any (n : Int) (w : World) (h0 : -9223372036854775807 ≤ n) (h1 : n ≤ 9223372036854775807) :
    Calls Tryz.prog 81 #[.int .i64 n] w (SaysT (decB n) w) := by
  by_cases h : n < 0
  · obtain ⟨m, rfl⟩ : ∃ m, n = -m := ⟨-n, by omega⟩
    have hm : 0 < m := by omega
    have HP := Lib.hid (decB_neg (n := m) (by omega))
    have HC := Lib.hid (specDec_any m.toNat m w (by omega) (by omega) (by omega))
    have hs : (decB m).size ≤ 21 := decB_size (by omega) (by omega)
    clear h
    go_enter Tryz.func81, Tryz.ntmps81
    go_wp2_with fail
    refine HC.out.mono ?_; rintro e w1 ⟨rfl, hB⟩; have HB := Lib.hid hB; clear hB
    go_wp2_with fail
    go_ret
    exact ⟨ret_str HP.out.symm, HB.out⟩
  · have hn : 0 ≤ n := by omega
    have HC := Lib.hid (specDec_any n.toNat n w (by omega) (by omega) (by omega))
    clear h
    go_enter Tryz.func81, Tryz.ntmps81
    go_wp2_with fail
    refine HC.out.mono ?_; rintro e w1 ⟨rfl, hB⟩; have HB := Lib.hid hB; clear hB
    go_wp2_with fail
    go_ret
    exact ⟨ret_str rfl, HB.out⟩

set_option maxHeartbeats 400000 in
theorem specJoin_any (a : Option Addr) (len cap : Nat) (zs : List Int) (sep : ByteArray) (w : World) (hl : zs.length = len) (hm : len ≤ 1000000) (h : IntsAt w a zs) (hv : zs.all isVal = true) (hsep : sep.size ≤ 100) :
    Calls Tryz.prog 62 #[.slice a len cap, .string sep] w (SaysT (joinB (zs.map decB) sep) w) := by
  have HB := Lib.hid (fun k => joinN_size zs sep k hv (by omega : zs.length ≤ 1000000) hsep)
  have HL := Lib.hid hl; have HI := Lib.hid h; have HV := Lib.hid hv; clear hl h hv
  go_enter Tryz.func62, Tryz.ntmps62
  go_wp2
  go_loopw [5, 6] (fun t i wr => ∃ k : Nat, k ≤ len ∧ i = .int .i64 k ∧ t = .string (joinB ((zs.map decB).take k) sep) ∧ Below w.heap.size w wr) (fun _ i _ => len - (intOf i).toNat)
  case atStart => exact ⟨0, Nat.zero_le _, rfl, rfl, Below.refl _ _⟩
  case round =>
    obtain ⟨k, hk, rfl, rfl, hW⟩ := hrel
    have HW := Lib.hid hW; clear hW
    by_cases hlt : k < len
    · obtain ⟨b, off, x, ha, hc, ht, hx⟩ := (HI.out.below HW.out).at HL.out hlt
      have hB := HB.out k
      obtain ⟨b3, b4⟩ := (isVal_iff x).1 (isVal_of_all hx HV.out)
      have hE : (decB x).size ≤ 21 := decB_size (by omega) (by omega)
      have HC := Lib.hid (specNumber_any x wr (by omega) (by omega))
      subst ha
      by_cases h0 : 0 < k
      · have HT := Lib.hid (show joinB ((zs.map decB).take k) sep ++ sep ++ decB x = joinB ((zs.map decB).take (k+1)) sep by
          rw [take_map_snoc ht]; exact joinB_snoc _ _ _ (by intro e; have := congrArg List.length e; rw [List.length_take, List.length_map, HL.out] at this; simp at this; omega))
        have hs2 : (joinB ((zs.map decB).take k) sep ++ sep).size ≤ 200000000 := by rw [ByteArray.size_append]; omega
        clear hx ht
        go_wp2_with fail
        refine HC.out.mono ?_; rintro e w1 ⟨rfl, hB1⟩; have HW1 := Lib.hid (HW.out.trans (hB1.mono HW.out.size)); clear hB1
        go_wp2_with fail
        go_roundw
        case rel => exact ⟨k + 1, by omega, by go_num, by rw [← HT.out], HW1.out⟩
        case measure => simp [intOf]; omega
      · obtain rfl : k = 0 := by omega
        have HT := Lib.hid (show joinB [] sep ++ decB x = joinB ((zs.map decB).take 1) sep by rw [show (zs.map decB).take 1 = [decB x] from take_map_snoc (k := 0) ht]; exact joinB_first _ _)
        rw [List.take_zero] at hB
        rw [Nat.add_zero] at hc
        clear hx ht
        go_wp2_with fail
        refine HC.out.mono ?_; rintro e w1 ⟨rfl, hB1⟩; have HW1 := Lib.hid (HW.out.trans (hB1.mono HW.out.size)); clear hB1
        go_wp2_with fail
        go_roundw
        case rel => exact ⟨1, by omega, by go_num, by rw [← HT.out], HW1.out⟩
        case measure => simp [intOf]; omega
    · have HN := Lib.hid (show joinB ((zs.map decB).take k) sep = joinB (zs.map decB) sep by rw [List.take_of_length_le (by rw [List.length_map, HL.out]; omega)])
      go_wp2
      go_ret
      exact ⟨ret_str HN.out, HW.out⟩

set_option maxHeartbeats 400000 in
theorem specText_any (a : Option Addr) (len cap : Nat) (zs : List Int) (w : World) (hl : zs.length = len) (hm : len ≤ 1000000) (h : IntsAt w a zs) (hv : zs.all isVal = true) :
    Calls Tryz.prog 45 #[.slice a len cap] w (SaysT (listT zs) w) := by
  by_cases h0 : len = 0
  · obtain rfl := len_eq hl h0
    subst h0
    clear hl h hv
    go_enter Tryz.func45, Tryz.ntmps45
    go_wp2
    go_ret
    exact ⟨ret_str rfl, Below.refl _ _⟩
  · have HN := Lib.hid (listT_some (len_ne hl h0))
    have HC := Lib.hid (specJoin_any a len cap zs comma w hl hm h hv (by decide))
    have hz : ((len : Int) == 0) = false := beq_eq_false_iff_ne.2 (by omega)
    clear hl h hv h0
    go_enter Tryz.func45, Tryz.ntmps45
    go_wp2_with fail
    refine HC.out.mono ?_; rintro e w1 ⟨rfl, hB⟩; have HB := Lib.hid hB; clear hB
    go_wp2_with fail
    go_ret
    exact ⟨ret_str HN.out.symm, HB.out⟩

theorem texts_row {w wr : World} {T len : Nat} {f : Nat → Value} {zs : List Int} (hr : wr.rowIs w.heap.size T len f) (hl : zs.length = len) (hf : ∀ i x, i < len → zs[i]? = some x → f i = .string (decB x)) :
    StrsAt wr (some ⟨w.heap.size, 0, none⟩) (zs.map decB) :=
  .inr ⟨_, _, rfl, fun i x hx => by
    rw [List.getElem?_map, Option.map_eq_some_iff] at hx
    obtain ⟨y, hy, rfl⟩ := hx
    have hi : i < len := by rw [← hl]; exact (List.getElem?_eq_some_iff.1 hy).1
    rw [Nat.zero_add, hr.cell hi, hf i y hi hy]⟩
theorem texts_step {zs : List Int} {k : Nat} {x : Int} {f : Nat → Value} (hf : ∀ i y, i < k → zs[i]? = some y → f i = .string (decB y)) (hx : zs[k]? = some x) :
    ∀ i y, i < k + 1 → zs[i]? = some y → (fun j => if j = k then Value.string (decB x) else f j) i = .string (decB y) := by
  intro i y hi hy
  by_cases e : i = k
  · subst e; rw [hx] at hy; cases hy; simp
  · simp only [if_neg e]; exact hf i y (by omega) hy
theorem row_below {w w1 : World} {b T n : Nat} {f : Nat → Value} (h : w.rowIs b T n f) (hB : Below w.heap.size w w1) : w1.rowIs b T n f := h.of_block (hB.block b h.lt)

set_option maxHeartbeats 800000 in
theorem implListText_any (a : Option Addr) (len cap : Nat) (zs : List Int) (w : World) (hl : zs.length = len) (hm : len ≤ maxLen) (h : IntsAt w a zs) (ht : Tabs Tryz.prog w) :
    Calls Tryz.prog 15 #[.slice a len cap] w (SaysT2 (listText zs).1 (listText zs).2 w) := by
  have HC := Lib.hid (implListError_any a len cap zs w hl hm h)
  have HTB := Lib.hid ht; clear ht
  rcases listErr_cases zs with ⟨he, hall, h60⟩ | he | he
  · have HE := Lib.hid he; rw [he] at HC; clear he
    have HN := Lib.hid (show listText zs = (listT zs, 0) by rw [listText, if_pos HE.out])
    have hmk := run_make_row' (P := Tryz.prog) 41 9 (.string ⟨#[]⟩) 16 Tryz.underlying41 Tryz.info_str rfl .i64 .i64 len (by omega) (by omega)
    have HZ := Lib.hid (numTexts_size zs hall)
    have hl60 : len ≤ 60 := by omega
    have HL := Lib.hid hl; have HI := Lib.hid h; have HV := Lib.hid hall
    clear hall h60 hl h hm
    go_enter Tryz.func15, Tryz.ntmps15
    go_wp2_with fail
    refine HC.out.mono ?_; rintro e w' ⟨rfl, rfl⟩
    go_wp2_with fail
    go_loopw [6, 7, 18] (fun _ _ i wr => ∃ k : Nat, k ≤ len ∧ i = .int .i64 k ∧ Below w.heap.size w wr ∧ ∃ f, wr.rowIs w.heap.size 9 len f ∧ ∀ i x, i < k → zs[i]? = some x → f i = .string (decB x)) (fun _ _ i _ => len - (intOf i).toNat)
    case atStart => exact ⟨0, Nat.zero_le _, rfl, (Below.refl _ _).alloc (Nat.le_refl _) _, _, World.rowIs_made _ _ _ _, fun i x hi => by omega⟩
    case round =>
      obtain ⟨k, hk, rfl, hB, f, hr, hf⟩ := hrel
      have HB := Lib.hid hB; have HR := Lib.hid hr; have HF := Lib.hid hf; clear hB hr hf
      by_cases hlt : k < len
      · obtain ⟨b, off, x, ha, hc, ht, hx⟩ := (HI.out.below HB.out).at HL.out hlt
        obtain ⟨b3, b4⟩ := (isVal_iff x).1 (isVal_of_all hx HV.out)
        have HX := Lib.hid hx; clear hx ht
        have HM := Lib.hid (implNumberText_any x wr (by omega) (by omega) (Tabs.below Tryz.gPow HTB.out HB.out))
        subst ha
        go_wp2_with fail
        refine HM.out.mono ?_; rintro e w1 ⟨rfl, hB1⟩
        have HR1 := Lib.hid (row_below HR.out hB1)
        have HB1 := Lib.hid (HB.out.trans (hB1.mono HB.out.size)); clear hB1
        have hc2 := HR1.out.cell hlt
        have hf2 := HR1.out.frozen k
        go_wp2_with fail
        go_roundw
        case rel => exact ⟨k + 1, by omega, by go_num, HB1.out.setCell (Nat.le_refl _) _, _, HR1.out.set _ _, texts_step HF.out HX.out⟩
        case measure => simp [intOf]; omega
      · have HS := Lib.hid (texts_row HR.out HL.out (fun i x hi hx => HF.out i x (by omega) hx))
        have HJ := Lib.hid (implJoinParts_any (some ⟨w.heap.size, 0, none⟩) len len (zs.map decB) wr (by rw [List.length_map]; exact HL.out) (Nat.le_refl _) (by omega) HS.out (by rw [List.length_map]; have := HZ.out; have := HL.out; omega))
        go_wp2_with fail
        refine HJ.out.mono ?_; rintro e w1 ⟨rfl, hB1⟩
        have HB1 := Lib.hid (HB.out.trans (hB1.mono HB.out.size)); clear hB1
        go_wp2_with fail
        go_ret2
        exact ⟨ret_str2 (by rw [HN.out]; rfl) (by rw [HN.out]), HB1.out⟩
  all_goals
    have HN := Lib.hid (show listText zs = (⟨#[]⟩, listErr zs) by rw [listText, if_neg (by omega)])
    rw [he] at HC HN; clear he hl h
    go_enter Tryz.func15, Tryz.ntmps15
    go_wp2_with fail
    refine HC.out.mono ?_; rintro e w' ⟨rfl, rfl⟩
    go_wp2_with fail
    go_ret2
    exact ⟨ret_str2 (by rw [HN.out]) (by rw [HN.out]), Below.refl _ _⟩

end Go.Proofs.YtjnicmlomjppnaaGreatDoor
