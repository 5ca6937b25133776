/- Merged: the texts Nums SplitI ReadLB ReadLN ReadLI ReadLC, in their order. -/
import Derived.Test.YtjnicmlomjppnaaGreatDoorChecked
import Derived.Test.YtjnicmlomjppnaaGreatDoorBase0
import Derived.Test.YtjnicmlomjppnaaGreatDoorDec
import Derived.Test.YtjnicmlomjppnaaGreatDoorPar
import Derived.WalkKit
import Derived.WalkSpells
import Derived.WalkLawsBesides
import Derived.Lib.Hide
import Derived.Lib.ParseIntBTie
import Derived.Outline
import Derived.Test.YtjnicmlomjppnaaGreatDoorSplit
import Derived.Test.YtjnicmlomjppnaaGreatDoorSpl
import Derived.Deep.OwnRows
import Derived.Test.YtjnicmlomjppnaaGreatDoorInfo
import Derived.Test.YtjnicmlomjppnaaGreatDoorListErr
/- Contracts: impl.readNumber, spec.l01Value and spec.l01Signed read a number. -/
namespace Go.Proofs.YtjnicmlomjppnaaGreatDoor
open Go.RowKit Pure1 Pure2 Pure3 Pure4 Pure5 Pure7

/-- the library's two sentinel errors are there -/
def ErrsAt (w : World) : Prop := (∃ tp p, w.var? Tryz.prog "strconv.ErrSyntax" = some #[.iface tp p]) ∧ (∃ tp p, w.var? Tryz.prog "strconv.ErrRange" = some #[.iface tp p])
theorem numEnd_cases (e : Lib.NumEnd Int) : (∃ v, e = .ok v) ∨ e = Lib.parseIntB 64 [] ∨ e = .range := by
  cases e
  · exact .inl ⟨_, rfl⟩
  · exact .inr (.inl rfl)
  · exact .inr (.inr rfl)
theorem none_ok (m : Int) : Lib.parseIntB 64 [] ≠ .ok m := by
  intro h
  exact absurd (h ▸ (show (match Lib.parseIntB 64 [] with | .ok _ => True | _ => False) = False from rfl) : (match (Lib.NumEnd.ok m : Lib.NumEnd Int) with | .ok _ => True | _ => False) = False) (by simp)

theorem Tryz.gSyn : Tryz.prog.globalNamed "strconv.ErrSyntax" = some 2 := by kernel_rfl
theorem Tryz.gRan : Tryz.prog.globalNamed "strconv.ErrRange" = some 3 := by kernel_rfl
theorem ErrsAt.below {w w' : World} (h : ErrsAt w) (hb : Below w.heap.size w w') : ErrsAt w' := by
  obtain ⟨⟨a, b, h1⟩, ⟨c, d, h2⟩⟩ := h
  have l1 : 2 < w.heap.size := World.block_lt_of_cell? w ⟨2, 0, none⟩ (World.var?_cell Tryz.gSyn h1 0)
  have l2 : 3 < w.heap.size := World.block_lt_of_cell? w ⟨3, 0, none⟩ (World.var?_cell Tryz.gRan h2 0)
  exact ⟨⟨a, b, var?_below hb Tryz.gSyn l1 h1⟩, ⟨c, d, var?_below hb Tryz.gRan l2 h2⟩⟩

def SaysNum (t : ByteArray) (lo hi : Int) (w : World) (e : Ending) (w' : World) : Prop :=
  ∃ n b, e = .returned (.tuple #[.int .i64 n, .bool b]) ∧ NumRead t lo hi n b ∧ Below w.heap.size w w'

theorem bytes_below {w w' : World} {T : TypeId} (h : w' = w ∨ ∃ t, w' = Lib.bytesWorld w T t) : Below w.heap.size w w' := by
  rcases h with rfl | ⟨t, rfl⟩
  · exact Below.refl _ _
  · exact Lib.bytesWorld_below _ _ _

set_option maxHeartbeats 400000 in
theorem implReadNumber_any (s : ByteArray) (w : World) (hs : s.size ≤ 1048576) (hE : ErrsAt w) (hT : Tabs Tryz.prog w) :
    Calls Tryz.prog 25 #[.string s] w (SaysNum s (-9223372036854775808) 9223372036854775807 w) := by
  obtain ⟨⟨t1, p1, h1⟩, ⟨t2, p2, h2⟩⟩ := hE
  have HT := Lib.hid hT; clear hT
  rcases numEnd_cases (Lib.parseIntB 64 s.data.toList) with ⟨v, hp⟩ | hp | hp
  ·
    have HC := Lib.hid (Tryz.strconv_ParseInt_10_at64_ok s (by omega) v hp w)
    obtain ⟨b1, b2⟩ := Lib.parseIntB_bounds hp
    have b1' : -9223372036854775808 ≤ v := b1
    have b2' : v ≤ 9223372036854775807 := by have : v < 9223372036854775808 := b2; omega
    have HP := Lib.hid hp
    clear hp h1 h2 b1 b2
    by_cases hv : decB v = s
    · have HV := Lib.hid hv
      go_enter Tryz.func25, Tryz.ntmps25
      go_wp2_with fail
      refine HC.out.mono ?_; rintro e w1 ⟨rfl, hw⟩
      have HB := Lib.hid (bytes_below hw); clear hw hv
      go_wp2_with fail
      refine (implNumberText_any v w1 b1' b2' (HT.out.below Tryz.gPow HB.out)).mono ?_; rintro e w2 ⟨rfl, hB2⟩
      have HB2 := Lib.hid (HB.out.trans (hB2.mono HB.out.size)); clear hB2
      rw [HV.out]
      go_wp2_with fail
      go_ret2
      exact ⟨v, true, rfl, ⟨fun _ => ⟨HV.out, b1', b2'⟩, (fun h => by cases h)⟩, HB2.out⟩
    · have HV := Lib.hid (show ∀ m, -9223372036854775808 ≤ m → m ≤ 9223372036854775807 → decB m ≠ s from fun m l1 l2 e => hv (by
        have := parse_itoa m l1 l2
        rw [show Lib.itoa m = s.data.toList by rw [← e]; simp [decB]] at this
        rw [HP.out] at this
        rw [Lib.NumEnd.ok.inj this]; exact e))
      have hne := text_ne hv
      clear hv
      go_enter Tryz.func25, Tryz.ntmps25
      go_wp2_with fail
      refine HC.out.mono ?_; rintro e w1 ⟨rfl, hw⟩
      have HB := Lib.hid (bytes_below hw); clear hw
      go_wp2_with fail
      refine (implNumberText_any v w1 b1' b2' (HT.out.below Tryz.gPow HB.out)).mono ?_; rintro e w2 ⟨rfl, hB2⟩
      have HB2 := Lib.hid (HB.out.trans (hB2.mono HB.out.size)); clear hB2
      go_wp2_with fail
      go_ret2
      exact ⟨0, false, rfl, ⟨(fun h => by cases h), fun _ => HV.out⟩, HB2.out⟩
  ·
    have HC := Lib.hid (Tryz.strconv_ParseInt_10_at64_syntax_var s (by omega) hp t1 p1 w h1)
    have HV := Lib.hid (show ∀ m, -9223372036854775808 ≤ m → m ≤ 9223372036854775807 → decB m ≠ s from fun m l1 l2 e => by
      have := parse_itoa m l1 l2
      rw [show Lib.itoa m = s.data.toList by rw [← e]; simp [decB], hp] at this
      cases this)
    clear hp h1 h2
    go_enter Tryz.func25, Tryz.ntmps25
    go_wp2_with fail
    refine HC.out.mono ?_; rintro e w1 ⟨N, rfl, _, _, hB⟩
    have HB := Lib.hid hB; clear hB
    go_wp2_with fail
    go_ret2
    exact ⟨0, false, rfl, ⟨(fun h => by cases h), fun _ => HV.out⟩, HB.out⟩
  ·
    have HC := Lib.hid (Tryz.strconv_ParseInt_10_at64_range_var s (by omega) hp t2 p2 w h2)
    have HV := Lib.hid (show ∀ m, -9223372036854775808 ≤ m → m ≤ 9223372036854775807 → decB m ≠ s from fun m l1 l2 e => by
      have := parse_itoa m l1 l2
      rw [show Lib.itoa m = s.data.toList by rw [← e]; simp [decB], hp] at this
      cases this)
    obtain ⟨q, hq⟩ : ∃ q, q = Lib.intSat 64 s.data.toList := ⟨_, rfl⟩
    rw [← hq] at HC
    clear hp h1 h2 hq
    go_enter Tryz.func25, Tryz.ntmps25
    go_wp2_with fail
    refine HC.out.mono ?_; rintro e w1 ⟨N, rfl, _, _, hB⟩
    have HB := Lib.hid hB; clear hB
    go_wp2_with fail
    go_ret2
    exact ⟨0, false, rfl, ⟨(fun h => by cases h), fun _ => HV.out⟩, HB.out⟩

/-- what reading 1 to 13 digits says -/
def SaysVal (t : ByteArray) (w : World) (e : Ending) (w' : World) : Prop :=
  ∃ n b, e = .returned (.tuple #[.int .i64 n, .bool b]) ∧ 0 ≤ n ∧ n ≤ 9999999999999 ∧ NumRead t 0 9999999999999 n b ∧ Below w.heap.size w w'

theorem of_dec {s : ByteArray} {m : Int} (h0 : 0 ≤ m) (h1 : m ≤ 9999999999999) (h : decB m = s) : 1 ≤ s.size ∧ s.size ≤ 13 ∧ (∀ c ∈ s.data.toList, digit c) ∧ (val 0 s.data.toList : Int) = m := by
  subst h
  have e := decB_toList h0
  have hs : (decB m).size = (Lib.decDigits m.toNat).length := by rw [← e, Pure1.size_eq]
  have h1' := Lib.nDigits_pos m.toNat
  have h2' := dec_len (u := m.toNat) (by omega)
  rw [hs, e]
  refine ⟨by rw [Lib.decDigits_length]; exact h1', h2', (dec_spec _).1, ?_⟩
  rw [(dec_spec _).2]; omega

set_option maxRecDepth 100000 in
set_option maxHeartbeats 800000 in
theorem specValue_any (s : ByteArray) (w : World) (hs : s.size ≤ 1048576) :
    Calls Tryz.prog 28 #[.string s] w (SaysVal s w) := by
  by_cases h1 : s.size < 1
  · have HV := Lib.hid (show ∀ m, 0 ≤ m → m ≤ 9999999999999 → decB m ≠ s from fun m l1 l2 e => by have := of_dec l1 l2 e; omega)
    have h1' : (s.size : Int) < 1 := by omega
    clear h1
    go_enter Tryz.func28, Tryz.ntmps28
    go_wp2_with fail
    go_ret2
    exact ⟨0, false, rfl, by omega, by omega, ⟨(fun h => by cases h), fun _ => HV.out⟩, Below.refl _ _⟩
  by_cases h2 : 13 < s.size
  · have HV := Lib.hid (show ∀ m, 0 ≤ m → m ≤ 9999999999999 → decB m ≠ s from fun m l1 l2 e => by have := of_dec l1 l2 e; omega)
    have h1' : 1 ≤ (s.size : Int) := by omega
    have h2' : 13 < (s.size : Int) := by omega
    clear h1 h2
    go_enter Tryz.func28, Tryz.ntmps28
    go_wp2_with fail
    go_ret2
    exact ⟨0, false, rfl, by omega, by omega, ⟨(fun h => by cases h), fun _ => HV.out⟩, Below.refl _ _⟩
  have h1' : 1 ≤ (s.size : Int) := by omega
  have h2' : (s.size : Int) ≤ 13 := by omega
  have h13 : s.size ≤ 13 := by omega
  clear h1 h2
  go_enter Tryz.func28, Tryz.ntmps28
  go_wp2_with fail
  go_loop [4, 5] (fun v i => ∃ (k q : Nat), k ≤ s.size ∧ i = .int .i64 k ∧ v = .int .i64 q ∧ q = val 0 (s.data.toList.take k) ∧ q ≤ 9999999999999 ∧ ∀ c ∈ s.data.toList.take k, digit c) (fun _ i => s.size - (intOf i).toNat)
  case atStart => exact ⟨0, 0, Nat.zero_le _, rfl, rfl, by rw [List.take_zero, val_nil], by omega, by simp⟩
  case round =>
    obtain ⟨k, q, hk, rfl, rfl, hq, hqb, hd⟩ := hrel
    have HQ := Lib.hid hq; have HD := Lib.hid hd; clear hq hd
    by_cases hlt : k < s.size
    · by_cases hc : digit s[k]
      · have hc1 : 48 ≤ (s[k].toNat : Int) := by have := hc.1; omega
        have hc2 : (s[k].toNat : Int) ≤ 57 := by have := hc.2; omega
        have hx : s.data.toList[k]? = some s[k] := by rw [List.getElem?_eq_getElem (by simpa using hlt)]; rfl
        have hD2 : ∀ c ∈ s.data.toList.take (k + 1), digit c := by
          intro c h; rw [List.take_add_one, hx] at h
          rcases List.mem_append.1 h with h | h
          · exact HD.out c h
          · simp at h; rw [h]; exact hc
        have hv := val_take s.data.toList k _ hx
        have hlt2 := val_lt (s.data.toList.take (k + 1)) hD2
        have hl13 : (s.data.toList.take (k + 1)).length ≤ 13 := by rw [List.length_take, Pure1.size_eq]; omega
        have hp : 10 ^ (s.data.toList.take (k + 1)).length ≤ 10 ^ 13 := Nat.pow_le_pow_right (by omega) hl13
        have hb2 : val 0 (s.data.toList.take (k + 1)) < 10000000000000 := Nat.lt_of_lt_of_le hlt2 hp
        rw [← HQ.out] at hv
        have HN := Lib.hid (show 10 * q + (s[k].toNat - 48) = val 0 (s.data.toList.take (k + 1)) from hv.symm)
        rw [hv] at hb2
        have HD2 := Lib.hid hD2
        clear hv hlt2 hl13 hp hx hD2
        have HC := Lib.hid hc; clear hc
        go_wp2_with fail
        go_round
        case rel => exact ⟨k + 1, 10 * q + (s[k].toNat - 48), by omega, by go_num, by go_num, HN.out, by omega, HD2.out⟩
        case measure => simp [intOf]; omega
      · have HV := Lib.hid (show ∀ m, 0 ≤ m → m ≤ 9999999999999 → decB m ≠ s from fun m l1 l2 e => hc ((of_dec l1 l2 e).2.2.1 s[k] (by simp [ByteArray.getElem_eq_getElem_data])))
        by_cases hlo : (s[k].toNat : Int) < 48
        · clear hc
          go_wp2_with fail
          go_ret2
          exact ⟨0, false, rfl, by omega, by omega, ⟨(fun h => by cases h), fun _ => HV.out⟩, Below.refl _ _⟩
        · have hhi : 57 < (s[k].toNat : Int) := by
            have : ¬ (48 ≤ s[k].toNat ∧ s[k].toNat ≤ 57) := hc
            omega
          clear hc
          go_wp2_with fail
          go_ret2
          exact ⟨0, false, rfl, by omega, by omega, ⟨(fun h => by cases h), fun _ => HV.out⟩, Below.refl _ _⟩
    · have HF := Lib.hid (show q = val 0 s.data.toList by have := HQ.out; rwa [take_all s k (by omega)] at this)
      have HC := Lib.hid (specDec_any q q w (by omega) (by omega) (by omega))
      by_cases hv : decB q = s
      · have HV := Lib.hid hv
        clear hv
        go_wp2_with fail
        refine HC.out.mono ?_; rintro e w1 ⟨rfl, hB⟩; have HB := Lib.hid hB; clear hB
        rw [HV.out]
        go_wp2_with fail
        go_ret2
        exact ⟨q, true, by simp, by omega, by omega, ⟨(fun _ => ⟨HV.out, by omega, by omega⟩), (fun h => by cases h)⟩, HB.out⟩
      · have HV := Lib.hid (show ∀ m, 0 ≤ m → m ≤ 9999999999999 → decB m ≠ s from fun m l1 l2 e => hv (by
          have := (of_dec l1 l2 e).2.2.2
          rw [← HF.out] at this; rw [this]; exact e))
        have hne := text_ne hv
        clear hv
        go_wp2_with fail
        refine HC.out.mono ?_; rintro e w1 ⟨rfl, hB⟩; have HB := Lib.hid hB; clear hB
        go_wp2_with fail
        go_ret2
        exact ⟨q, false, rfl, by omega, by omega, ⟨(fun h => by cases h), fun _ => HV.out⟩, HB.out⟩

theorem minus_toList (x : ByteArray) : (minus ++ x).data.toList = 45 :: x.data.toList := by
  rw [ByteArray.data_append, Array.toList_append]; rfl
theorem minus_split {s : ByteArray} (h : 0 < s.size) (h0 : s[0] = 45) : s = minus ++ s.extract 1 s.size := by
  have h1 : s.data.toList = s[0] :: s.data.toList.drop 1 := by have := Pure5.drop_cons s 0 h; rwa [List.drop_zero] at this
  have h2 : (s.data.toList.drop 1).take (s.size - 1) = s.data.toList.drop 1 := List.take_of_length_le (by simp)
  have e : s.data.toList = 45 :: (s.extract 1 s.size).data.toList := by
    rw [Lib.extract_data, h2, ← h0]; exact h1
  rw [← minus_toList] at e
  have e2 := mk_toList (minus ++ s.extract 1 s.size)
  rw [← e, mk_toList] at e2
  exact e2
theorem ba_cancel {a b : ByteArray} (h : minus ++ a = minus ++ b) : a = b := by
  have e := minus_toList a
  rw [h, minus_toList] at e
  have e2 := (List.cons.inj e).2
  rw [← mk_toList a, ← mk_toList b, e2]
theorem ret_nb {n m : Int} {b c : Bool} (h : n = m) (h' : b = c) : Ending.returned (.tuple #[.int .i64 n, .bool b]) = .returned (.tuple #[.int .i64 m, .bool c]) := by rw [h, h']
theorem no_minus {s : ByteArray} (h : s.size = 0 ∨ ∃ hh : 0 < s.size, s[0] ≠ 45) : ∀ m, -9999999999999 ≤ m → m < 0 → decB m ≠ s := by
  intro m l1 l2 e
  obtain ⟨u, rfl⟩ : ∃ u, m = -u := ⟨-m, by omega⟩
  rw [decB_neg (by omega)] at e
  subst e
  rcases h with h | ⟨hh, h⟩
  · rw [ByteArray.size_append] at h
    have e : (⟨#[45]⟩ : ByteArray).size = 1 := rfl
    omega
  · apply h
    have : ((⟨#[45]⟩ : ByteArray) ++ decB u).data.toList[0]? = some 45 := by simp [ByteArray.data_append]
    have h2 := Pure5.drop_cons _ 0 hh
    rw [List.drop_zero] at h2
    rw [h2] at this
    simpa using this

set_option maxRecDepth 100000 in
set_option maxHeartbeats 800000 in
theorem specSigned_any (s : ByteArray) (w : World) (hs : s.size ≤ 1048576) :
    Calls Tryz.prog 69 #[.string s] w (SaysNum s (-9999999999999) 9999999999999 w) := by
  by_cases hz : s.size = 0
  · have HV := Lib.hid (no_minus (.inl hz))
    have HC := Lib.hid (specValue_any s w hs)
    have hz' : (s.size : Int) ≤ 0 := by omega
    clear hz
    go_enter Tryz.func69, Tryz.ntmps69
    go_wp2_with fail
    refine HC.out.mono ?_; rintro e w1 ⟨n, b, rfl, n0, n1, hR, hB⟩
    have HR := Lib.hid hR; have HB := Lib.hid hB; clear hR hB
    go_wp2_with fail
    go_ret2
    exact ⟨n, b, rfl, ⟨fun h => ⟨(HR.out.1 h).1, by omega, by omega⟩, fun h m l1 l2 => if hm : m < 0 then HV.out m l1 hm else HR.out.2 h m (by omega) l2⟩, HB.out⟩
  · have hpos : 0 < s.size := by omega
    have hp' : 0 < (s.size : Int) := by omega
    by_cases h0 : s[0] = 45
    · have HS := Lib.hid (minus_split hpos h0)
      have hb : ((s[0].toNat : Int) == 45) = true := by rw [h0]; rfl
      have HC := Lib.hid (specValue_any (s.extract 1 s.size) w (by have := extract_size_le s 1 s.size; omega))
      clear hz h0
      go_enter Tryz.func69, Tryz.ntmps69
      go_wp2_with fail
      refine HC.out.mono ?_; rintro e w1 ⟨n, b, rfl, n0, n1, hR, hB⟩
      have HR := Lib.hid hR; have HB := Lib.hid hB; clear hR hB
      by_cases hyes : b = true ∧ 0 < n
      · obtain ⟨rfl, hn⟩ := hyes
        have HY := Lib.hid (show decB (-n) = s by rw [decB_neg (by omega), (HR.out.1 rfl).1]; exact HS.out.symm)
        go_wp2_with fail
        go_ret2
        exact ⟨-n, true, rfl, ⟨fun _ => ⟨HY.out, by omega, by omega⟩, (fun h => by cases h)⟩, HB.out⟩
      · have HV := Lib.hid (show ∀ m, -9999999999999 ≤ m → m ≤ 9999999999999 → decB m ≠ s from fun m l1 l2 e => by
          by_cases hm : m < 0
          · obtain ⟨u, rfl⟩ : ∃ u, m = -u := ⟨-m, by omega⟩
            rw [decB_neg (by omega)] at e
            have e2 := ba_cancel (show minus ++ decB u = minus ++ s.extract 1 s.size from e.trans HS.out)
            cases b with
            | false => exact HR.out.2 rfl u (by omega) (by omega) e2
            | true =>
              have e3 := decB_inj (by omega) (by omega) (by omega) (by omega) ((HR.out.1 rfl).1.trans e2.symm)
              exact hyes ⟨rfl, by omega⟩
          · have := (of_dec (by omega) l2 e).2.2.1 45 (by rw [HS.out, minus_toList]; simp)
            exact absurd this.1 (by decide))
        cases b with
        | false =>
          clear hyes
          go_wp2_with fail
          go_ret2
          exact ⟨-n, false, rfl, ⟨(fun h => by cases h), fun _ => HV.out⟩, HB.out⟩
        | true =>
          have hn0 : n ≤ 0 := by
            apply Int.not_lt.1; intro h; exact hyes ⟨rfl, h⟩
          clear hyes
          go_wp2_with fail
          go_ret2
          exact ⟨-n, false, ret_nb rfl (decide_eq_false (by omega)), ⟨(fun h => by cases h), fun _ => HV.out⟩, HB.out⟩
    · have HV := Lib.hid (no_minus (.inr ⟨hpos, h0⟩))
      have hb : ((s[0].toNat : Int) == 45) = false := by
        rw [beq_eq_false_iff_ne]; intro e; apply h0; apply UInt8.toNat_inj.1; show s[0].toNat = 45; omega
      have HC := Lib.hid (specValue_any s w hs)
      clear hz h0
      go_enter Tryz.func69, Tryz.ntmps69
      go_wp2_with fail
      refine HC.out.mono ?_; rintro e w1 ⟨n, b, rfl, n0, n1, hR, hB⟩
      have HR := Lib.hid hR; have HB := Lib.hid hB; clear hR hB
      go_wp2_with fail
      go_ret2
      exact ⟨n, b, rfl, ⟨fun h => ⟨(HR.out.1 h).1, by omega, by omega⟩, fun h m l1 l2 => if hm : m < 0 then HV.out m l1 hm else HR.out.2 h m (by omega) l2⟩, HB.out⟩

end Go.Proofs.YtjnicmlomjppnaaGreatDoor
/- Contract: impl.splitParts splits a text at commas. -/
namespace Go.Proofs.YtjnicmlomjppnaaGreatDoor
open Go.RowKit Pure3 Pure5

/-- the library's variable MaxLen holds some number -/
def MaxAt (w : World) : Prop := ∃ m, w.cell? ⟨0, 0, none⟩ = some (.int .i64 m)
theorem MaxAt.below {w w' : World} (h : MaxAt w) (hb : Below w.heap.size w w') : MaxAt w' := ⟨_, cell_later hb h.choose_spec⟩
theorem maxAt_of {w : World} (h : w.ShapedOpen Tryz.prog) : MaxAt w := Tryz.laysM146.s1_3 w h

/-- a new slice of texts is returned -/
def SaysNew (ss : List ByteArray) (w : World) (e : Ending) (w' : World) : Prop := ∃ v, e = .returned v ∧ NewStrs w ss v w'

theorem newStrs_nil (w : World) {w' : World} (h : Below w.heap.size w w') : NewStrs w [] (.slice none 0 0) w' := ⟨none, 0, rfl, Nat.le_refl _, h, .inl rfl⟩
theorem newStrs_row (w : World) (ss : List ByteArray) : NewStrs w ss (.slice (some ⟨w.heap.size, 0, none⟩) ss.length ss.length) (w.alloc (.cells (ss.map Value.string).toArray 9)) :=
  ⟨_, _, rfl, Nat.le_refl _, (Below.refl _ _).alloc (Nat.le_refl _) _, .inr ⟨_, fun i => ((ss.map Value.string)[i]?).getD undef, ss.length, rfl, Nat.le_refl _, Nat.le_refl _, by
    have := World.rowIs_alloc w (ss.map Value.string).toArray 9 (fun i => ((ss.map Value.string)[i]?).getD undef) (fun i hi => by
      simp only [List.size_toArray] at hi
      rw [List.getElem?_toArray, List.getElem?_eq_getElem hi]; rfl)
    simpa using this, fun i x hx => by simp [hx]⟩⟩

set_option maxHeartbeats 400000 in
theorem implSplitParts_any (s : ByteArray) (w : World) (hs : s.size ≤ 1048576) (hM : MaxAt w) :
    Calls Tryz.prog 49 #[.string s] w (SaysNew (iparts s) w) := by
  by_cases h : s = minus
  · have HN := Lib.hid (show iparts s = [] by rw [iparts, if_pos h])
    have hb : (s.toList == [45]) = true := by rw [h]; exact minus_yes
    clear h hM
    go_enter Tryz.func49, Tryz.ntmps49
    go_wp2_with fail
    go_ret
    exact ⟨_, rfl, by rw [HN.out]; exact newStrs_nil _ (Below.refl _ _)⟩
  · have HN := Lib.hid (show iparts s = parts s by rw [iparts, if_neg h])
    have hb := minus_no h
    obtain ⟨m, hm⟩ := hM
    have hC := Tryz.strings_Split s comma m w (by omega) hm (by decide)
    rw [splitB_parts, ← parts_length] at hC
    have HC := Lib.hid hC
    clear h hm hC
    go_enter Tryz.func49, Tryz.ntmps49
    go_wp2_with fail
    refine HC.out.mono ?_; rintro e w1 ⟨rfl, rfl⟩
    go_wp2_with fail
    go_ret
    exact ⟨_, rfl, by rw [HN.out]; exact newStrs_row w (parts s)⟩

end Go.Proofs.YtjnicmlomjppnaaGreatDoor
/- What reading a list of numbers says. -/
namespace Go.Proofs.YtjnicmlomjppnaaGreatDoor
open Go.RowKit Pure2 Pure3 Pure4 Pure5 Pure7 Pure8

/-- a new slice of numbers of the call's own and a code are returned -/
def SaysNewI (zs : List Int) (n : Int) (w : World) (e : Ending) (w' : World) : Prop :=
  ∃ a cap, e = .returned (.tuple #[.slice a zs.length cap, .int .i64 n]) ∧ OwnI w.heap.size w' a zs.length (fun i => zs.getD i 0) ∧ Below w.heap.size w w'
/-- a slice of numbers and a code are returned -/
def SaysReadI (zs : List Int) (n : Int) (w : World) (e : Ending) (w' : World) : Prop :=
  ∃ a cap, e = .returned (.tuple #[.slice a zs.length cap, .int .i64 n]) ∧ IntsAt w' a zs ∧ Below w.heap.size w w'
theorem ret_slI {u v : Value} {a b : Int} (h : u = v) (h' : a = b) : Ending.returned (.tuple #[u, .int .i64 a]) = .returned (.tuple #[v, .int .i64 b]) := by rw [h, h']

theorem ownI_row {w wr : World} {B len : Nat} {f : Nat → Value} {ns : List Int} (hr : wr.rowIs B 2 len f) (hb : w.heap.size ≤ B) (hl : ns.length = len) (hf : ∀ i x, ns[i]? = some x → f i = .int .i64 x) :
    OwnI w.heap.size wr (some ⟨B, 0, none⟩) ns.length (fun i => ns.getD i 0) :=
  .inr ⟨B, f, len, rfl, hb, by omega, hr, fun i hi => hf i _ (by simp [List.getElem?_eq_getElem hi])⟩
theorem list_step {ns : List Int} {n : Int} {f : Nat → Value} (hf : ∀ i x, ns[i]? = some x → f i = .int .i64 x) :
    ∀ i x, (ns ++ [n])[i]? = some x → (fun j => if j = ns.length then Value.int .i64 n else f j) i = .int .i64 x := by
  intro i x hx
  by_cases e : i = ns.length
  · subst e; simp at hx; simp [hx]
  · have hi : i < ns.length := by
      have := (List.getElem?_eq_some_iff.1 hx).1
      rw [List.length_append, List.length_singleton] at this; omega
    rw [List.getElem?_append_left hi] at hx
    simp only [if_neg e]; exact hf i x hx

end Go.Proofs.YtjnicmlomjppnaaGreatDoor
/- Contract: spec.l01Numbers. -/
namespace Go.Proofs.YtjnicmlomjppnaaGreatDoor
open Go.RowKit Pure2 Pure3 Pure4 Pure5 Pure7 Pure8

/-- what reading numbers says -/
def NumsRead (ss : List ByteArray) (w : World) (e : Ending) (w' : World) : Prop :=
  (∃ (v : Value) (ns : List Int), e = .returned (.tuple #[v, .bool true]) ∧ ss = ns.map decB ∧ (∀ n ∈ ns, -9999999999999 ≤ n ∧ n ≤ 9999999999999) ∧ w'.ownsRow w.heap.size 2 1 v ns.length (ns.map (Value.int .i64)) ∧ Below w.heap.size w w') ∨
  (e = .returned (.tuple #[.slice none 0 0, .bool false]) ∧ (∃ x, x ∈ ss ∧ ∀ m, -9999999999999 ≤ m → m ≤ 9999999999999 → decB m ≠ x) ∧ Below w.heap.size w w')
theorem owns_snocL {w : World} {base e : Nat} {v : Value} {zs : List Int} {x : Int} (h : w.ownsRow base e 1 v (zs.length + 1) (zs.map (Value.int .i64) ++ [Value.int .i64 x])) :
    w.ownsRow base e 1 v (zs ++ [x]).length ((zs ++ [x]).map (Value.int .i64)) := by
  rw [List.length_append, List.map_append]; exact h

set_option maxRecDepth 100000 in
set_option maxHeartbeats 400000 in
theorem specNumbers_any (a : Option Addr) (len cap : Nat) (ss : List ByteArray) (w : World) (hl : ss.length = len) (hm : len ≤ 1048577) (h : StrsAt w a ss) (hz : ∀ x ∈ ss, x.size ≤ 1048576) :
    Calls Tryz.prog 51 #[.slice a len cap] w (NumsRead ss w) := by
  obtain ⟨i0, hi, hz0, hz1, hz2⟩ := info_parts Tryz.info_i64
  have HL := Lib.hid hl; have HX := Lib.hid h; have HZ := Lib.hid hz; clear hl h hz
  go_enter Tryz.func51, Tryz.ntmps51
  go_wp2_with fail
  go_loopw [4, 5, 6, 7, 15] (fun v i _ _ _ wr => ∃ (k : Nat) (ns : List Int), k ≤ len ∧ i = .int .i64 k ∧ ns.length = k ∧ ss.take k = ns.map decB ∧ (∀ n ∈ ns, -9999999999999 ≤ n ∧ n ≤ 9999999999999) ∧ wr.ownsRow w.heap.size 2 1 v ns.length (ns.map (Value.int .i64)) ∧ Below w.heap.size w wr) (fun _ i _ _ _ _ => len - (intOf i).toNat)
  case atStart => exact ⟨0, [], Nat.zero_le _, rfl, rfl, by simp, by simp, World.ownsRow_lit w #[] 0 (Nat.le_refl _) (by decide) rfl, (Below.refl _ _).alloc (Nat.le_refl _) _⟩
  case round =>
    obtain ⟨k, ns, hk, rfl, hnl, hnt, hnb, ho, hB⟩ := hrel
    have hnk : ns.length ≤ 1048577 := by omega
    have HNL := Lib.hid hnl; have HNT := Lib.hid hnt; have HNB := Lib.hid hnb; have HO := Lib.hid ho; have HB := Lib.hid hB
    clear hnl hnt hnb ho hB
    by_cases hlt : k < len
    · obtain ⟨b, off, x, ha, hc, ht, hx⟩ := (HX.out.below HB.out).at HL.out hlt
      have HTK := Lib.hid ht
      have HXM := Lib.hid (List.mem_of_getElem? hx)
      have HC := Lib.hid (specSigned_any x wr (HZ.out x (List.mem_of_getElem? hx)))
      clear ht hx
      subst ha
      go_wp2_with fail
      refine HC.out.mono ?_; rintro e w2 ⟨n, bb, rfl, hN, hB2⟩
      have HN := Lib.hid hN
      have hown := HO.out.kept (w' := w2) (row := none) ⟨hB2.os, hB2.tape, hB2.output, hB2.size, fun k hk _ => hB2.block k hk⟩ (by
        cases hv : (Value.ownBlock _) with
        | none => exact .inl rfl
        | some g => exact .inr (by intro e; cases e))
      have HB2 := Lib.hid (HB.out.trans (hB2.mono HB.out.size)); clear hN hB2
      cases bb with
      | true =>
        have HNN := Lib.hid (HN.out.1 rfl)
        go_wp2_with (at_builtin; refine wpList_append_own _ rfl _ _ 24 rfl w.heap.size 2 i0 (.int .i64 0) 1 8 Tryz.underlying24 hi hz0 hz1 hz2 rfl (by decide) _ _ _ rfl (hown.alloc _) ⟨w2.heap.size, 0, none⟩ 1 1 [.int .i64 n] rfl rfl ?c1 ?c2 ?c3 ?c4 ?c5 ?_)
        case c1 => exact cell_one_new _ _ _
        case c2 => intro u hu; simp at hu; subst hu; rfl
        case c3 => unfold maxLen; omega
        case c4 => omega
        case c5 => have := HB2.out.size; simp; omega
        intro v' w5 hown' hgrow _
        have HO5 := Lib.hid (owns_snocL hown')
        have HB5 := Lib.hid ((HB2.out.alloc HB2.out.size _).grown hgrow (by have := HB2.out.size; simp; omega) (fun k hk => (hown.lt k hk).1))
        clear hown hown' hgrow
        go_wp2_with fail
        go_roundw
        case rel => exact ⟨k + 1, ns ++ [n], by omega, by go_num, by rw [List.length_append, HNL.out]; rfl, take_snocS HTK.out HNT.out HNN.out.1, bd_snoc HNB.out HNN.out.2.1 HNN.out.2.2, HO5.out, HB5.out⟩
        case measure => simp [intOf]; omega
      | false =>
        have HBad := Lib.hid (HN.out.2 rfl)
        clear hown
        go_wp2_with fail
        go_ret2
        exact .inr ⟨rfl, ⟨x, HXM.out, HBad.out⟩, HB2.out⟩
    · have HPS := Lib.hid (show ss = ns.map decB by have := HNT.out; rwa [List.take_of_length_le (by rw [HL.out]; omega)] at this)
      go_wp2_with fail
      go_ret2
      exact .inl ⟨_, ns, rfl, HPS.out, HNB.out, HO.out, HB.out⟩

end Go.Proofs.YtjnicmlomjppnaaGreatDoor
/- Contract: impl.ReadList. -/
namespace Go.Proofs.YtjnicmlomjppnaaGreatDoor
open Go.RowKit Pure2 Pure3 Pure4 Pure5 Pure7 Pure8

set_option maxRecDepth 100000 in
set_option maxHeartbeats 400000 in
theorem implReadList_any (s : ByteArray) (w : World) (hs : s.size ≤ 1048576) (hM : MaxAt w) (hE : ErrsAt w) (hT : Tabs Tryz.prog w) :
    Calls Tryz.prog 24 #[.string s] w (SaysNewI (readList s).1 (readList s).2 w) := by
  have HS := Lib.hid (implSplitParts_any s w hs hM)
  have hlen := iparts_len s
  have HZ := Lib.hid (iparts_sizes s)
  have HE := Lib.hid hE; have HT := Lib.hid hT
  have HRO := Lib.hid (fun (ns : List Int) => readList_of (s := s) (ns := ns))
  have HRB := Lib.hid (fun x => readList_bad (s := s) (x := x))
  clear hM hE hT
  have hmk := run_make_row' (P := Tryz.prog) 24 2 (.int .i64 0) 8 Tryz.underlying24 Tryz.info_i64 rfl .i64 .i64 (iparts s).length (by omega) (by omega)
  generalize hps : iparts s = ps at *
  obtain ⟨len, hl⟩ : ∃ len, len = ps.length := ⟨_, rfl⟩
  rw [← hl] at hmk hlen
  have HL := Lib.hid hl; clear hl hps
  go_enter Tryz.func24, Tryz.ntmps24
  go_wp2_with fail
  refine HS.out.mono ?_; rintro e w1 ⟨v, rfl, hN⟩
  obtain ⟨a, cap, rfl, hcap, hB, hrow⟩ := hN
  have HX := Lib.hid (NewStrs.at (⟨a, cap, rfl, hcap, hB, hrow⟩ : NewStrs w ps (.slice a ps.length cap) w1))
  have HB := Lib.hid hB; clear hB hrow hcap
  rw [← HL.out]
  go_wp2_with fail
  go_loopw [6, 7, 8, 9, 17, 22] (fun _ _ _ _ i _ wr => ∃ (k : Nat) (ns : List Int) (f : Nat → Value), k ≤ len ∧ i = .int .i64 k ∧ ns.length = k ∧ ps.take k = ns.map decB ∧ (∀ n ∈ ns, -9223372036854775808 ≤ n ∧ n ≤ 9223372036854775807) ∧ wr.rowIs w1.heap.size 2 len f ∧ (∀ i x, ns[i]? = some x → f i = .int .i64 x) ∧ Below w1.heap.size w1 wr) (fun _ _ _ _ i _ _ => len - (intOf i).toNat)
  case atStart => exact ⟨0, [], _, Nat.zero_le _, rfl, rfl, by simp, by simp, World.rowIs_made _ _ _ _, by simp, (Below.refl _ _).alloc (Nat.le_refl _) _⟩
  case round =>
    obtain ⟨k, ns, f, hk, rfl, hnl, hnt, hnb, hr, hf, hB⟩ := hrel
    have HNL := Lib.hid hnl; have HNT := Lib.hid hnt; have HNB := Lib.hid hnb; have HR := Lib.hid hr; have HF := Lib.hid hf; have HB1 := Lib.hid hB
    have HBT := Lib.hid (HB.out.trans (hB.mono HB.out.size))
    clear hnl hnt hnb hr hf hB
    by_cases hlt : k < len
    · obtain ⟨b, off, x, ha, hc, ht, hx⟩ := (HX.out.below HB1.out).at HL.out.symm hlt
      have HTK := Lib.hid ht
      have HXM := Lib.hid (List.mem_of_getElem? hx)
      have hxs : x.size ≤ 1048576 := Nat.le_trans (HZ.out x (List.mem_of_getElem? hx)) hs
      clear ht hx
      have HC := Lib.hid (implReadNumber_any x wr hxs (HE.out.below HBT.out) (HT.out.below Tryz.gPow HBT.out))
      subst ha
      go_wp2_with fail
      refine HC.out.mono ?_; rintro e w2 ⟨n, bb, rfl, hN, hB2⟩
      have HN := Lib.hid hN
      have HR2 := Lib.hid (HR.out.of_block (hB2.block _ HR.out.lt))
      have HB2 := Lib.hid (HB1.out.trans (hB2.mono HB1.out.size)); clear hN hB2
      cases bb with
      | true =>
        have hc2 := HR2.out.cell hlt
        have hf2 := HR2.out.frozen k
        have HNN := Lib.hid (HN.out.1 rfl)
        go_wp2_with fail
        go_roundw
        case rel =>
          have hset := HR2.out.set k (.int .i64 n)
          have hstep := list_step (n := n) HF.out
          rw [HNL.out] at hstep
          exact ⟨k + 1, ns ++ [n], _, by omega, by go_num, by rw [List.length_append, HNL.out]; rfl, take_snocS HTK.out HNT.out HNN.out.1, bd_snoc HNB.out HNN.out.2.1 HNN.out.2.2, hset, hstep, HB2.out.setCell (Nat.le_refl _) _⟩
        case measure => simp [intOf]; omega
      | false =>
        have HRL := Lib.hid (HRB.out x HXM.out (fun m l1 l2 => HN.out.2 rfl m (by omega) (by omega)))
        go_wp2_with fail
        go_ret2
        exact ⟨none, 0, ret_slI (by rw [HRL.out]; rfl) (by rw [HRL.out]), .inl (by rw [HRL.out]; rfl), HB.out.trans (HB2.out.mono HB.out.size)⟩
    · have hps : ps = ns.map decB := by have := HNT.out; rwa [List.take_of_length_le (by rw [← HL.out]; omega)] at this
      have HRL := Lib.hid (HRO.out ns hps HNB.out)
      have hnl2 : ns.length = len := by rw [HNL.out]; omega
      have HO := Lib.hid (ownI_row (w := w) HR.out HB.out.size hnl2 HF.out)
      have hml : len ≤ maxLen := by unfold maxLen; omega
      have HC := Lib.hid (implListError_any (some ⟨w1.heap.size, 0, none⟩) len len ns wr hnl2 hml (ownI_reads HO.out))
      have HNL2 := Lib.hid hnl2
      clear hps hnl2 hml
      go_wp2_with fail
      refine HC.out.mono ?_; rintro e w' ⟨rfl, rfl⟩
      by_cases he : listErr ns = 0
      · rw [if_pos he] at HRL
        rw [he]; clear he
        go_wp2_with fail
        go_ret2
        exact ⟨some ⟨w1.heap.size, 0, none⟩, len, ret_slI (by rw [HRL.out, HNL2.out]; rfl) (by rw [HRL.out]), by rw [HRL.out]; exact HO.out, HBT.out⟩
      · rw [if_neg he] at HRL
        have hne : (listErr ns == 0) = false := beq_eq_false_iff_ne.2 he
        have hne2 : (listErr ns != 0) = true := bne_iff_ne.2 he
        clear he
        go_wp2_with fail
        go_ret2
        exact ⟨none, 0, ret_slI (by rw [HRL.out]; rfl) (by rw [HRL.out]), .inl (by rw [HRL.out]; rfl), HBT.out⟩

end Go.Proofs.YtjnicmlomjppnaaGreatDoor
/- Contracts: spec.ReadList and impl.ReadList, as in XReadL and XReadLI; here the capacity is told too. -/
namespace Go.Proofs.YtjnicmlomjppnaaGreatDoor
open Go.RowKit Pure2 Pure3 Pure4 Pure5 Pure7 Pure8

/-- a slice of numbers and a code are returned, its length within its capacity -/
def SaysReadC (zs : List Int) (n : Int) (w : World) (e : Ending) (w' : World) : Prop :=
  ∃ a cap, e = .returned (.tuple #[.slice a zs.length cap, .int .i64 n]) ∧ zs.length ≤ cap ∧ (∀ x, a = some x → w.heap.size ≤ x.block) ∧ IntsAt w' a zs ∧ Below w.heap.size w w'
/-- .. of our own -/
def SaysNewC (zs : List Int) (n : Int) (w : World) (e : Ending) (w' : World) : Prop :=
  ∃ a cap, e = .returned (.tuple #[.slice a zs.length cap, .int .i64 n]) ∧ zs.length ≤ cap ∧ (∀ x, a = some x → w.heap.size ≤ x.block ∧ x.block < w'.heap.size) ∧ OwnI w.heap.size w' a zs.length (fun i => zs.getD i 0) ∧ Below w.heap.size w w'

set_option maxRecDepth 100000 in
set_option maxHeartbeats 400000 in
theorem specReadListC_any (s : ByteArray) (w : World) (hs : s.size ≤ 1048576) :
    Calls Tryz.prog 27 #[.string s] w (SaysReadC (readList s).1 (readList s).2 w) := by
  by_cases h : s = minus
  · have HN := Lib.hid (show readList s = ([], 0) by rw [h]; exact readList_minus)
    have hb : (s.toList == [45]) = true := by rw [h]; exact minus_yes
    clear h
    go_enter Tryz.func27, Tryz.ntmps27
    go_wp2_with fail
    go_ret2
    exact ⟨some ⟨w.heap.size, 0, none⟩, 0, ret_slI (by rw [HN.out]; rfl) (by rw [HN.out]), (by rw [HN.out]; exact Nat.zero_le _), (fun x hx => by cases hx; exact Nat.le_refl _), .inl (by rw [HN.out]), (Below.refl _ _).alloc (Nat.le_refl _) _⟩
  · have hb := minus_no h
    have HP := Lib.hid (iparts_parts h)
    have HS := Lib.hid (specSplit_any s w hs)
    have hlen := parts_len_le s
    have HZ := Lib.hid (fun x hx => Nat.le_trans (parts_sizes s x hx) hs)
    have HRO := Lib.hid (fun (ns : List Int) (h1 : parts s = ns.map decB) => readList_of (s := s) (ns := ns) (HP.out.trans h1))
    have HRB := Lib.hid (fun x (h1 : x ∈ parts s) => readList_bad (s := s) (x := x) (by rw [HP.out]; exact h1))
    clear h
    go_enter Tryz.func27, Tryz.ntmps27
    go_wp2_with fail
    refine HS.out.mono ?_; rintro e w1 ⟨v, rfl, ho, hB⟩
    obtain ⟨a, cap, rfl, hcap, hat⟩ := strsAt_of_owns ho
    have HX := Lib.hid hat; have HB := Lib.hid hB; clear hB hat hcap ho
    go_wp2_with fail
    refine (specNumbers_any a _ cap (parts s) w1 rfl (by omega) HX.out HZ.out).mono ?_
    rintro e w2 (⟨v, ns, rfl, hps, hnb, ho, hB2⟩ | ⟨rfl, ⟨x, hx, hbad⟩, hB2⟩)
    · have HRL := Lib.hid (HRO.out ns hps (fun n hn => by have := hnb n hn; omega))
      have hnl : ns.length ≤ 1048577 := by have := congrArg List.length hps; rw [List.length_map] at this; omega
      obtain ⟨a2, cap2, rfl, hc2, hI⟩ := intsAt_of_owns' ho
      have hw1 := HB.out.size
      have hlo : ∀ x, a2 = some x → w.heap.size ≤ x.block := fun x hx => by
        subst hx
        have := (ho.lt x.block rfl).1
        omega
      have HI := Lib.hid hI; have HB2 := Lib.hid (HB.out.trans (hB2.mono HB.out.size))
      clear hps hnb ho hB2 hI
      by_cases he : listErr ns = 0
      · rw [if_pos he] at HRL
        have HC := Lib.hid (specValues_any a2 ns.length cap2 ns w2 rfl (by unfold maxLen; omega) HI.out)
        rw [he] at HC; clear he
        go_wp2_with fail
        refine HC.out.mono ?_; rintro e w' ⟨rfl, rfl⟩
        go_wp2_with fail
        go_ret2
        exact ⟨a2, cap2, ret_slI (by rw [HRL.out]; rfl) (by rw [HRL.out]), (by rw [HRL.out]; exact hc2), hlo, (by rw [HRL.out]; exact HI.out), HB2.out⟩
      · rw [if_neg he] at HRL
        have HC := Lib.hid (specValues_any a2 ns.length cap2 ns w2 rfl (by unfold maxLen; omega) HI.out)
        have hne : (listErr ns == 0) = false := beq_eq_false_iff_ne.2 he
        have hne2 : (listErr ns != 0) = true := bne_iff_ne.2 he
        clear he
        go_wp2_with fail
        refine HC.out.mono ?_; rintro e w' ⟨rfl, rfl⟩
        go_wp2_with fail
        go_ret2
        exact ⟨none, 0, ret_slI (by rw [HRL.out]; rfl) (by rw [HRL.out]), (by rw [HRL.out]; exact Nat.le_refl _), (fun x hx => by cases hx), .inl (by rw [HRL.out]), HB2.out⟩
    · have HRL := Lib.hid (HRB.out x hx hbad)
      have HB2 := Lib.hid (HB.out.trans (hB2.mono HB.out.size))
      clear hx hbad hB2
      go_wp2_with fail
      go_ret2
      exact ⟨none, 0, ret_slI (by rw [HRL.out]; rfl) (by rw [HRL.out]), (by rw [HRL.out]; exact Nat.le_refl _), (fun x hx => by cases hx), .inl (by rw [HRL.out]), HB2.out⟩

set_option maxRecDepth 100000 in
set_option maxHeartbeats 400000 in
theorem implReadListC_any (s : ByteArray) (w : World) (hs : s.size ≤ 1048576) (hM : MaxAt w) (hE : ErrsAt w) (hT : Tabs Tryz.prog w) :
    Calls Tryz.prog 24 #[.string s] w (SaysNewC (readList s).1 (readList s).2 w) := by
  have HS := Lib.hid (implSplitParts_any s w hs hM)
  have hlen := iparts_len s
  have HZ := Lib.hid (iparts_sizes s)
  have HE := Lib.hid hE; have HT := Lib.hid hT
  have HRO := Lib.hid (fun (ns : List Int) => readList_of (s := s) (ns := ns))
  have HRB := Lib.hid (fun x => readList_bad (s := s) (x := x))
  clear hM hE hT
  have hmk := run_make_row' (P := Tryz.prog) 24 2 (.int .i64 0) 8 Tryz.underlying24 Tryz.info_i64 rfl .i64 .i64 (iparts s).length (by omega) (by omega)
  generalize hps : iparts s = ps at *
  obtain ⟨len, hl⟩ : ∃ len, len = ps.length := ⟨_, rfl⟩
  rw [← hl] at hmk hlen
  have HL := Lib.hid hl; clear hl hps
  go_enter Tryz.func24, Tryz.ntmps24
  go_wp2_with fail
  refine HS.out.mono ?_; rintro e w1 ⟨v, rfl, hN⟩
  obtain ⟨a, cap, rfl, hcap, hB, hrow⟩ := hN
  have HX := Lib.hid (NewStrs.at (⟨a, cap, rfl, hcap, hB, hrow⟩ : NewStrs w ps (.slice a ps.length cap) w1))
  have HB := Lib.hid hB; clear hB hrow hcap
  rw [← HL.out]
  go_wp2_with fail
  go_loopw [6, 7, 8, 9, 17, 22] (fun _ _ _ _ i _ wr => ∃ (k : Nat) (ns : List Int) (f : Nat → Value), k ≤ len ∧ i = .int .i64 k ∧ ns.length = k ∧ ps.take k = ns.map decB ∧ (∀ n ∈ ns, -9223372036854775808 ≤ n ∧ n ≤ 9223372036854775807) ∧ wr.rowIs w1.heap.size 2 len f ∧ (∀ i x, ns[i]? = some x → f i = .int .i64 x) ∧ Below w1.heap.size w1 wr) (fun _ _ _ _ i _ _ => len - (intOf i).toNat)
  case atStart => exact ⟨0, [], _, Nat.zero_le _, rfl, rfl, by simp, by simp, World.rowIs_made _ _ _ _, by simp, (Below.refl _ _).alloc (Nat.le_refl _) _⟩
  case round =>
    obtain ⟨k, ns, f, hk, rfl, hnl, hnt, hnb, hr, hf, hB⟩ := hrel
    have HNL := Lib.hid hnl; have HNT := Lib.hid hnt; have HNB := Lib.hid hnb; have HR := Lib.hid hr; have HF := Lib.hid hf; have HB1 := Lib.hid hB
    have HBT := Lib.hid (HB.out.trans (hB.mono HB.out.size))
    clear hnl hnt hnb hr hf hB
    by_cases hlt : k < len
    · obtain ⟨b, off, x, ha, hc, ht, hx⟩ := (HX.out.below HB1.out).at HL.out.symm hlt
      have HTK := Lib.hid ht
      have HXM := Lib.hid (List.mem_of_getElem? hx)
      have hxs : x.size ≤ 1048576 := Nat.le_trans (HZ.out x (List.mem_of_getElem? hx)) hs
      clear ht hx
      have HC := Lib.hid (implReadNumber_any x wr hxs (HE.out.below HBT.out) (HT.out.below Tryz.gPow HBT.out))
      subst ha
      go_wp2_with fail
      refine HC.out.mono ?_; rintro e w2 ⟨n, bb, rfl, hN, hB2⟩
      have HN := Lib.hid hN
      have HR2 := Lib.hid (HR.out.of_block (hB2.block _ HR.out.lt))
      have HB2 := Lib.hid (HB1.out.trans (hB2.mono HB1.out.size)); clear hN hB2
      cases bb with
      | true =>
        have hc2 := HR2.out.cell hlt
        have hf2 := HR2.out.frozen k
        have HNN := Lib.hid (HN.out.1 rfl)
        go_wp2_with fail
        go_roundw
        case rel =>
          have hset := HR2.out.set k (.int .i64 n)
          have hstep := list_step (n := n) HF.out
          rw [HNL.out] at hstep
          exact ⟨k + 1, ns ++ [n], _, by omega, by go_num, by rw [List.length_append, HNL.out]; rfl, take_snocS HTK.out HNT.out HNN.out.1, bd_snoc HNB.out HNN.out.2.1 HNN.out.2.2, hset, hstep, HB2.out.setCell (Nat.le_refl _) _⟩
        case measure => simp [intOf]; omega
      | false =>
        have HRL := Lib.hid (HRB.out x HXM.out (fun m l1 l2 => HN.out.2 rfl m (by omega) (by omega)))
        go_wp2_with fail
        go_ret2
        exact ⟨none, 0, ret_slI (by rw [HRL.out]; rfl) (by rw [HRL.out]), (by rw [HRL.out]; exact Nat.le_refl _), (fun x hx => by cases hx), .inl (by rw [HRL.out]; rfl), HB.out.trans (HB2.out.mono HB.out.size)⟩
    · have hps : ps = ns.map decB := by have := HNT.out; rwa [List.take_of_length_le (by rw [← HL.out]; omega)] at this
      have HRL := Lib.hid (HRO.out ns hps HNB.out)
      have hnl2 : ns.length = len := by rw [HNL.out]; omega
      have HO := Lib.hid (ownI_row (w := w) HR.out HB.out.size hnl2 HF.out)
      have hml : len ≤ maxLen := by unfold maxLen; omega
      have HC := Lib.hid (implListError_any (some ⟨w1.heap.size, 0, none⟩) len len ns wr hnl2 hml (ownI_reads HO.out))
      have HNL2 := Lib.hid hnl2
      clear hps hnl2 hml
      go_wp2_with fail
      refine HC.out.mono ?_; rintro e w' ⟨rfl, rfl⟩
      by_cases he : listErr ns = 0
      · rw [if_pos he] at HRL
        rw [he]; clear he
        go_wp2_with fail
        go_ret2
        exact ⟨some ⟨w1.heap.size, 0, none⟩, len, ret_slI (by rw [HRL.out, HNL2.out]; rfl) (by rw [HRL.out]), (by rw [HRL.out]; exact Nat.le_of_eq HNL2.out), (fun x hx => by cases hx; exact ⟨HB.out.size, HR.out.lt⟩), (by rw [HRL.out]; exact HO.out), HBT.out⟩
      · rw [if_neg he] at HRL
        have hne : (listErr ns == 0) = false := beq_eq_false_iff_ne.2 he
        have hne2 : (listErr ns != 0) = true := bne_iff_ne.2 he
        clear he
        go_wp2_with fail
        go_ret2
        exact ⟨none, 0, ret_slI (by rw [HRL.out]; rfl) (by rw [HRL.out]), (by rw [HRL.out]; exact Nat.le_refl _), (fun x hx => by cases hx), .inl (by rw [HRL.out]; rfl), HBT.out⟩

end Go.Proofs.YtjnicmlomjppnaaGreatDoor
