/- Contracts: impl.readNumber, spec.l01Value and spec.l01Signed read a number. -/
import Derived.Test.YtmpopfcnjgcncaaGreatDoorChecked
import Derived.Test.YtmpopfcnjgcncaaGreatDoorBase0
import Derived.Test.YtmpopfcnjgcncaaGreatDoorDec
import Derived.Test.YtmpopfcnjgcncaaGreatDoorPar
import Derived.WalkKit
import Derived.WalkSpells
import Derived.WalkLawsBesides
import Derived.Lib.Hide
import Derived.Lib.ParseIntBTie
import Derived.Outline
namespace Go.Proofs.YtmpopfcnjgcncaaGreatDoor
open Go.RowKit Pure1 Pure2 Pure3 Pure4 Pure5 Pure7

/-- the library's two sentinel errors are there -/
def ErrsAt (w : World) : Prop := (∃ tp p, w.var? Tryz.prog "strconv.ErrSyntax" = some #[.iface tp p]) ∧ (∃ tp p, w.var? Tryz.prog "strconv.ErrRange" = some #[.iface tp p])
theorem numEnd_cases (e : Lib.NumEnd Int) : (∃ v, e = .ok v) ∨ e = Lib.parseIntB 64 [] ∨ e = .range := by
  cases e
  · exact .inl ⟨_, rfl⟩
  · exact .inr (.inl rfl)
  · exact .inr (.inr rfl)
theorem none_ok (m : Int) : Lib.parseIntB 64 [] ≠ .ok m := by
  intro h
  exact absurd (h ▸ (show (match Lib.parseIntB 64 [] with | .ok _ => True | _ => False) = False from rfl) : (match (Lib.NumEnd.ok m : Lib.NumEnd Int) with | .ok _ => True | _ => False) = False) (by simp)

theorem Tryz.gSyn : Tryz.prog.globalNamed "strconv.ErrSyntax" = some 2 := by kernel_rfl
theorem Tryz.gRan : Tryz.prog.globalNamed "strconv.ErrRange" = some 3 := by kernel_rfl
theorem ErrsAt.below {w w' : World} (h : ErrsAt w) (hb : Below w.heap.size w w') : ErrsAt w' := by
  obtain ⟨⟨a, b, h1⟩, ⟨c, d, h2⟩⟩ := h
  have l1 : 2 < w.heap.size := World.block_lt_of_cell? w ⟨2, 0, none⟩ (World.var?_cell Tryz.gSyn h1 0)
  have l2 : 3 < w.heap.size := World.block_lt_of_cell? w ⟨3, 0, none⟩ (World.var?_cell Tryz.gRan h2 0)
  exact ⟨⟨a, b, var?_below hb Tryz.gSyn l1 h1⟩, ⟨c, d, var?_below hb Tryz.gRan l2 h2⟩⟩

def SaysNum (t : ByteArray) (lo hi : Int) (w : World) (e : Ending) (w' : World) : Prop :=
  ∃ n b, e = .returned (.tuple #[.int .i64 n, .bool b]) ∧ NumRead t lo hi n b ∧ Below w.heap.size w w'

theorem bytes_below {w w' : World} {T : TypeId} (h : w' = w ∨ ∃ t, w' = Lib.bytesWorld w T t) : Below w.heap.size w w' := by
  rcases h with rfl | ⟨t, rfl⟩
  · exact Below.refl _ _
  · exact Lib.bytesWorld_below _ _ _

set_option maxHeartbeats 400000 in
theorem implReadNumber_any (s : ByteArray) (w : World) (hs : s.size ≤ 1048576) (hE : ErrsAt w) (hT : Tabs Tryz.prog w) :
    Calls Tryz.prog 29 #[.string s] w (SaysNum s (-9223372036854775808) 9223372036854775807 w) := by
  obtain ⟨⟨t1, p1, h1⟩, ⟨t2, p2, h2⟩⟩ := hE
  have HT := Lib.hid hT; clear hT
  rcases numEnd_cases (Lib.parseIntB 64 s.data.toList) with ⟨v, hp⟩ | hp | hp
  ·
    have HC := Lib.hid (Tryz.strconv_ParseInt_10_at64_ok s (by omega) v hp w)
    obtain ⟨b1, b2⟩ := Lib.parseIntB_bounds hp
    have b1' : -9223372036854775808 ≤ v := b1
    have b2' : v ≤ 9223372036854775807 := by have : v < 9223372036854775808 := b2; omega
    have HP := Lib.hid hp
    clear hp h1 h2 b1 b2
    by_cases hv : decB v = s
    · have HV := Lib.hid hv
      go_enter Tryz.func29, Tryz.ntmps29
      go_wp2_with fail
      refine HC.out.mono ?_; rintro e w1 ⟨rfl, hw⟩
      have HB := Lib.hid (bytes_below hw); clear hw hv
      go_wp2_with fail
      refine (implNumberText_any v w1 b1' b2' (HT.out.below Tryz.gPow HB.out)).mono ?_; rintro e w2 ⟨rfl, hB2⟩
      have HB2 := Lib.hid (HB.out.trans (hB2.mono HB.out.size)); clear hB2
      rw [HV.out]
      go_wp2_with fail
      go_ret2
      exact ⟨v, true, rfl, ⟨fun _ => ⟨HV.out, b1', b2'⟩, (fun h => by cases h)⟩, HB2.out⟩
    · have HV := Lib.hid (show ∀ m, -9223372036854775808 ≤ m → m ≤ 9223372036854775807 → decB m ≠ s from fun m l1 l2 e => hv (by
        have := parse_itoa m l1 l2
        rw [show Lib.itoa m = s.data.toList by rw [← e]; simp [decB]] at this
        rw [HP.out] at this
        rw [Lib.NumEnd.ok.inj this]; exact e))
      have hne := text_ne hv
      clear hv
      go_enter Tryz.func29, Tryz.ntmps29
      go_wp2_with fail
      refine HC.out.mono ?_; rintro e w1 ⟨rfl, hw⟩
      have HB := Lib.hid (bytes_below hw); clear hw
      go_wp2_with fail
      refine (implNumberText_any v w1 b1' b2' (HT.out.below Tryz.gPow HB.out)).mono ?_; rintro e w2 ⟨rfl, hB2⟩
      have HB2 := Lib.hid (HB.out.trans (hB2.mono HB.out.size)); clear hB2
      go_wp2_with fail
      go_ret2
      exact ⟨0, false, rfl, ⟨(fun h => by cases h), fun _ => HV.out⟩, HB2.out⟩
  ·
    have HC := Lib.hid (Tryz.strconv_ParseInt_10_at64_syntax_var s (by omega) hp t1 p1 w h1)
    have HV := Lib.hid (show ∀ m, -9223372036854775808 ≤ m → m ≤ 9223372036854775807 → decB m ≠ s from fun m l1 l2 e => by
      have := parse_itoa m l1 l2
      rw [show Lib.itoa m = s.data.toList by rw [← e]; simp [decB], hp] at this
      cases this)
    clear hp h1 h2
    go_enter Tryz.func29, Tryz.ntmps29
    go_wp2_with fail
    refine HC.out.mono ?_; rintro e w1 ⟨N, rfl, _, _, hB⟩
    have HB := Lib.hid hB; clear hB
    go_wp2_with fail
    go_ret2
    exact ⟨0, false, rfl, ⟨(fun h => by cases h), fun _ => HV.out⟩, HB.out⟩
  ·
    have HC := Lib.hid (Tryz.strconv_ParseInt_10_at64_range_var s (by omega) hp t2 p2 w h2)
    have HV := Lib.hid (show ∀ m, -9223372036854775808 ≤ m → m ≤ 9223372036854775807 → decB m ≠ s from fun m l1 l2 e => by
      have := parse_itoa m l1 l2
      rw [show Lib.itoa m = s.data.toList by rw [← e]; simp [decB], hp] at this
      cases this)
    obtain ⟨q, hq⟩ : ∃ q, q = Lib.intSat 64 s.data.toList := ⟨_, rfl⟩
    rw [← hq] at HC
    clear hp h1 h2 hq
    go_enter Tryz.func29, Tryz.ntmps29
    go_wp2_with fail
    refine HC.out.mono ?_; rintro e w1 ⟨N, rfl, _, _, hB⟩
    have HB := Lib.hid hB; clear hB
    go_wp2_with fail
    go_ret2
    exact ⟨0, false, rfl, ⟨(fun h => by cases h), fun _ => HV.out⟩, HB.out⟩

/-- what reading 1 to 13 digits says -/
def SaysVal (t : ByteArray) (w : World) (e : Ending) (w' : World) : Prop :=
  ∃ n b, e = .returned (.tuple #[.int .i64 n, .bool b]) ∧ 0 ≤ n ∧ n ≤ 9999999999999 ∧ NumRead t 0 9999999999999 n b ∧ Below w.heap.size w w'

theorem of_dec {s : ByteArray} {m : Int} (h0 : 0 ≤ m) (h1 : m ≤ 9999999999999) (h : decB m = s) : 1 ≤ s.size ∧ s.size ≤ 13 ∧ (∀ c ∈ s.data.toList, digit c) ∧ (val 0 s.data.toList : Int) = m := by
  subst h
  have e := decB_toList h0
  have hs : (decB m).size = (Lib.decDigits m.toNat).length := by rw [← e, Pure1.size_eq]
  have h1' := Lib.nDigits_pos m.toNat
  have h2' := dec_len (u := m.toNat) (by omega)
  rw [hs, e]
  refine ⟨by rw [Lib.decDigits_length]; exact h1', h2', (dec_spec _).1, ?_⟩
  rw [(dec_spec _).2]; omega

set_option maxRecDepth 100000 in
set_option maxHeartbeats 800000 in
theorem specValue_any (s : ByteArray) (w : World) (hs : s.size ≤ 1048576) :
    Calls Tryz.prog 32 #[.string s] w (SaysVal s w) := by
  by_cases h1 : s.size < 1
  · have HV := Lib.hid (show ∀ m, 0 ≤ m → m ≤ 9999999999999 → decB m ≠ s from fun m l1 l2 e => by have := of_dec l1 l2 e; omega)
    have h1' : (s.size : Int) < 1 := by omega
    clear h1
    go_enter Tryz.func32, Tryz.ntmps32
    go_wp2_with fail
    go_ret2
    exact ⟨0, false, rfl, by omega, by omega, ⟨(fun h => by cases h), fun _ => HV.out⟩, Below.refl _ _⟩
  by_cases h2 : 13 < s.size
  · have HV := Lib.hid (show ∀ m, 0 ≤ m → m ≤ 9999999999999 → decB m ≠ s from fun m l1 l2 e => by have := of_dec l1 l2 e; omega)
    have h1' : 1 ≤ (s.size : Int) := by omega
    have h2' : 13 < (s.size : Int) := by omega
    clear h1 h2
    go_enter Tryz.func32, Tryz.ntmps32
    go_wp2_with fail
    go_ret2
    exact ⟨0, false, rfl, by omega, by omega, ⟨(fun h => by cases h), fun _ => HV.out⟩, Below.refl _ _⟩
  have h1' : 1 ≤ (s.size : Int) := by omega
  have h2' : (s.size : Int) ≤ 13 := by omega
  have h13 : s.size ≤ 13 := by omega
  clear h1 h2
  go_enter Tryz.func32, Tryz.ntmps32
  go_wp2_with fail
  go_loop [4, 5] (fun v i => ∃ (k q : Nat), k ≤ s.size ∧ i = .int .i64 k ∧ v = .int .i64 q ∧ q = val 0 (s.data.toList.take k) ∧ q ≤ 9999999999999 ∧ ∀ c ∈ s.data.toList.take k, digit c) (fun _ i => s.size - (intOf i).toNat)
  case atStart => exact ⟨0, 0, Nat.zero_le _, rfl, rfl, by rw [List.take_zero, val_nil], by omega, by simp⟩
  case round =>
    obtain ⟨k, q, hk, rfl, rfl, hq, hqb, hd⟩ := hrel
    have HQ := Lib.hid hq; have HD := Lib.hid hd; clear hq hd
    by_cases hlt : k < s.size
    · by_cases hc : digit s[k]
      · have hc1 : 48 ≤ (s[k].toNat : Int) := by have := hc.1; omega
        have hc2 : (s[k].toNat : Int) ≤ 57 := by have := hc.2; omega
        have hx : s.data.toList[k]? = some s[k] := by rw [List.getElem?_eq_getElem (by simpa using hlt)]; rfl
        have hD2 : ∀ c ∈ s.data.toList.take (k + 1), digit c := by
          intro c h; rw [List.take_add_one, hx] at h
          rcases List.mem_append.1 h with h | h
          · exact HD.out c h
          · simp at h; rw [h]; exact hc
        have hv := val_take s.data.toList k _ hx
        have hlt2 := val_lt (s.data.toList.take (k + 1)) hD2
        have hl13 : (s.data.toList.take (k + 1)).length ≤ 13 := by rw [List.length_take, Pure1.size_eq]; omega
        have hp : 10 ^ (s.data.toList.take (k + 1)).length ≤ 10 ^ 13 := Nat.pow_le_pow_right (by omega) hl13
        have hb2 : val 0 (s.data.toList.take (k + 1)) < 10000000000000 := Nat.lt_of_lt_of_le hlt2 hp
        rw [← HQ.out] at hv
        have HN := Lib.hid (show 10 * q + (s[k].toNat - 48) = val 0 (s.data.toList.take (k + 1)) from hv.symm)
        rw [hv] at hb2
        have HD2 := Lib.hid hD2
        clear hv hlt2 hl13 hp hx hD2
        have HC := Lib.hid hc; clear hc
        go_wp2_with fail
        go_round
        case rel => exact ⟨k + 1, 10 * q + (s[k].toNat - 48), by omega, by go_num, by go_num, HN.out, by omega, HD2.out⟩
        case measure => simp [intOf]; omega
      · have HV := Lib.hid (show ∀ m, 0 ≤ m → m ≤ 9999999999999 → decB m ≠ s from fun m l1 l2 e => hc ((of_dec l1 l2 e).2.2.1 s[k] (by simp [ByteArray.getElem_eq_getElem_data])))
        by_cases hlo : (s[k].toNat : Int) < 48
        · clear hc
          go_wp2_with fail
          go_ret2
          exact ⟨0, false, rfl, by omega, by omega, ⟨(fun h => by cases h), fun _ => HV.out⟩, Below.refl _ _⟩
        · have hhi : 57 < (s[k].toNat : Int) := by
            have : ¬ (48 ≤ s[k].toNat ∧ s[k].toNat ≤ 57) := hc
            omega
          clear hc
          go_wp2_with fail
          go_ret2
          exact ⟨0, false, rfl, by omega, by omega, ⟨(fun h => by cases h), fun _ => HV.out⟩, Below.refl _ _⟩
    · have HF := Lib.hid (show q = val 0 s.data.toList by have := HQ.out; rwa [take_all s k (by omega)] at this)
      have HC := Lib.hid (specDec_any q q w (by omega) (by omega) (by omega))
      by_cases hv : decB q = s
      · have HV := Lib.hid hv
        clear hv
        go_wp2_with fail
        refine HC.out.mono ?_; rintro e w1 ⟨rfl, hB⟩; have HB := Lib.hid hB; clear hB
        rw [HV.out]
        go_wp2_with fail
        go_ret2
        exact ⟨q, true, by simp, by omega, by omega, ⟨(fun _ => ⟨HV.out, by omega, by omega⟩), (fun h => by cases h)⟩, HB.out⟩
      · have HV := Lib.hid (show ∀ m, 0 ≤ m → m ≤ 9999999999999 → decB m ≠ s from fun m l1 l2 e => hv (by
          have := (of_dec l1 l2 e).2.2.2
          rw [← HF.out] at this; rw [this]; exact e))
        have hne := text_ne hv
        clear hv
        go_wp2_with fail
        refine HC.out.mono ?_; rintro e w1 ⟨rfl, hB⟩; have HB := Lib.hid hB; clear hB
        go_wp2_with fail
        go_ret2
        exact ⟨q, false, rfl, by omega, by omega, ⟨(fun h => by cases h), fun _ => HV.out⟩, HB.out⟩

theorem minus_toList (x : ByteArray) : (minus ++ x).data.toList = 45 :: x.data.toList := by
  rw [ByteArray.data_append, Array.toList_append]; rfl
theorem minus_split {s : ByteArray} (h : 0 < s.size) (h0 : s[0] = 45) : s = minus ++ s.extract 1 s.size := by
  have h1 : s.data.toList = s[0] :: s.data.toList.drop 1 := by have := Pure5.drop_cons s 0 h; rwa [List.drop_zero] at this
  have h2 : (s.data.toList.drop 1).take (s.size - 1) = s.data.toList.drop 1 := List.take_of_length_le (by simp)
  have e : s.data.toList = 45 :: (s.extract 1 s.size).data.toList := by
    rw [Lib.extract_data, h2, ← h0]; exact h1
  rw [← minus_toList] at e
  have e2 := mk_toList (minus ++ s.extract 1 s.size)
  rw [← e, mk_toList] at e2
  exact e2
theorem ba_cancel {a b : ByteArray} (h : minus ++ a = minus ++ b) : a = b := by
  have e := minus_toList a
  rw [h, minus_toList] at e
  have e2 := (List.cons.inj e).2
  rw [← mk_toList a, ← mk_toList b, e2]
theorem ret_nb {n m : Int} {b c : Bool} (h : n = m) (h' : b = c) : Ending.returned (.tuple #[.int .i64 n, .bool b]) = .returned (.tuple #[.int .i64 m, .bool c]) := by rw [h, h']
theorem no_minus {s : ByteArray} (h : s.size = 0 ∨ ∃ hh : 0 < s.size, s[0] ≠ 45) : ∀ m, -9999999999999 ≤ m → m < 0 → decB m ≠ s := by
  intro m l1 l2 e
  obtain ⟨u, rfl⟩ : ∃ u, m = -u := ⟨-m, by omega⟩
  rw [decB_neg (by omega)] at e
  subst e
  rcases h with h | ⟨hh, h⟩
  · rw [ByteArray.size_append] at h
    have e : (⟨#[45]⟩ : ByteArray).size = 1 := rfl
    omega
  · apply h
    have : ((⟨#[45]⟩ : ByteArray) ++ decB u).data.toList[0]? = some 45 := by simp [ByteArray.data_append]
    have h2 := Pure5.drop_cons _ 0 hh
    rw [List.drop_zero] at h2
    rw [h2] at this
    simpa using this

set_option maxRecDepth 100000 in
set_option maxHeartbeats 800000 in
theorem specSigned_any (s : ByteArray) (w : World) (hs : s.size ≤ 1048576) :
    Calls Tryz.prog 76 #[.string s] w (SaysNum s (-9999999999999) 9999999999999 w) := by
  by_cases hz : s.size = 0
  · have HV := Lib.hid (no_minus (.inl hz))
    have HC := Lib.hid (specValue_any s w hs)
    have hz' : (s.size : Int) ≤ 0 := by omega
    clear hz
    go_enter Tryz.func76, Tryz.ntmps76
    go_wp2_with fail
    refine HC.out.mono ?_; rintro e w1 ⟨n, b, rfl, n0, n1, hR, hB⟩
    have HR := Lib.hid hR; have HB := Lib.hid hB; clear hR hB
    go_wp2_with fail
    go_ret2
    exact ⟨n, b, rfl, ⟨fun h => ⟨(HR.out.1 h).1, by omega, by omega⟩, fun h m l1 l2 => if hm : m < 0 then HV.out m l1 hm else HR.out.2 h m (by omega) l2⟩, HB.out⟩
  · have hpos : 0 < s.size := by omega
    have hp' : 0 < (s.size : Int) := by omega
    by_cases h0 : s[0] = 45
    · have HS := Lib.hid (minus_split hpos h0)
      have hb : ((s[0].toNat : Int) == 45) = true := by rw [h0]; rfl
      have HC := Lib.hid (specValue_any (s.extract 1 s.size) w (by have := extract_size_le s 1 s.size; omega))
      clear hz h0
      go_enter Tryz.func76, Tryz.ntmps76
      go_wp2_with fail
      refine HC.out.mono ?_; rintro e w1 ⟨n, b, rfl, n0, n1, hR, hB⟩
      have HR := Lib.hid hR; have HB := Lib.hid hB; clear hR hB
      by_cases hyes : b = true ∧ 0 < n
      · obtain ⟨rfl, hn⟩ := hyes
        have HY := Lib.hid (show decB (-n) = s by rw [decB_neg (by omega), (HR.out.1 rfl).1]; exact HS.out.symm)
        go_wp2_with fail
        go_ret2
        exact ⟨-n, true, rfl, ⟨fun _ => ⟨HY.out, by omega, by omega⟩, (fun h => by cases h)⟩, HB.out⟩
      · have HV := Lib.hid (show ∀ m, -9999999999999 ≤ m → m ≤ 9999999999999 → decB m ≠ s from fun m l1 l2 e => by
          by_cases hm : m < 0
          · obtain ⟨u, rfl⟩ : ∃ u, m = -u := ⟨-m, by omega⟩
            rw [decB_neg (by omega)] at e
            have e2 := ba_cancel (show minus ++ decB u = minus ++ s.extract 1 s.size from e.trans HS.out)
            cases b with
            | false => exact HR.out.2 rfl u (by omega) (by omega) e2
            | true =>
              have e3 := decB_inj (by omega) (by omega) (by omega) (by omega) ((HR.out.1 rfl).1.trans e2.symm)
              exact hyes ⟨rfl, by omega⟩
          · have := (of_dec (by omega) l2 e).2.2.1 45 (by rw [HS.out, minus_toList]; simp)
            exact absurd this.1 (by decide))
        cases b with
        | false =>
          clear hyes
          go_wp2_with fail
          go_ret2
          exact ⟨-n, false, rfl, ⟨(fun h => by cases h), fun _ => HV.out⟩, HB.out⟩
        | true =>
          have hn0 : n ≤ 0 := by
            apply Int.not_lt.1; intro h; exact hyes ⟨rfl, h⟩
          clear hyes
          go_wp2_with fail
          go_ret2
          exact ⟨-n, false, ret_nb rfl (decide_eq_false (by omega)), ⟨(fun h => by cases h), fun _ => HV.out⟩, HB.out⟩
    · have HV := Lib.hid (no_minus (.inr ⟨hpos, h0⟩))
      have hb : ((s[0].toNat : Int) == 45) = false := by
        rw [beq_eq_false_iff_ne]; intro e; apply h0; apply UInt8.toNat_inj.1; show s[0].toNat = 45; omega
      have HC := Lib.hid (specValue_any s w hs)
      clear hz h0
      go_enter Tryz.func76, Tryz.ntmps76
      go_wp2_with fail
      refine HC.out.mono ?_; rintro e w1 ⟨n, b, rfl, n0, n1, hR, hB⟩
      have HR := Lib.hid hR; have HB := Lib.hid hB; clear hR hB
      go_wp2_with fail
      go_ret2
      exact ⟨n, b, rfl, ⟨fun h => ⟨(HR.out.1 h).1, by omega, by omega⟩, fun h m l1 l2 => if hm : m < 0 then HV.out m l1 hm else HR.out.2 h m (by omega) l2⟩, HB.out⟩

end Go.Proofs.YtmpopfcnjgcncaaGreatDoor
