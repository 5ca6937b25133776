/- Contracts: LeastSafeLimit, of the program and of its model. -/
import Derived.Test.YtdeiillfdjebdaaChecked
import Derived.Test.YtdeiillfdjebdaaBase
import Derived.Test.YtdeiillfdjebdaaPure41
import Derived.Test.YtdeiillfdjebdaaPure51
import Derived.Test.YtdeiillfdjebdaaPersSlice
import Derived.Test.YtdeiillfdjebdaaIsPers
import Derived.Test.YtdeiillfdjebdaaArePers
import Derived.Test.YtdeiillfdjebdaaLike
import Derived.Test.YtdeiillfdjebdaaCode5
import Derived.Test.YtdeiillfdjebdaaGrp5
import Derived.Deep.RegionHeld
import Derived.WalkKit
import Derived.WalkSpells
import Derived.WalkLawsBesides
import Derived.Lib.Hide
import Derived.IntWalk
import Derived.Outline
namespace Go.Proofs.Ytdeiillfdjebdaa
open Go.RowKit Go.Sort Pure1 Pure2 Pure40 Pure41 Pure50 Pure51

/-- the likeness of two persons of a list -/
def likeAt (ps : List Pers) (i k : Nat) : Int := match ps[i]?, ps[k]? with
  | some p, some q => likeP p q
  | _, _ => 0
theorem likeAt_eq {ps : List Pers} {i k : Nat} {p q : Pers} (hp : ps[i]? = some p) (hq : ps[k]? = some q) : likeAt ps i k = likeP p q := by simp [likeAt, hp, hq]
theorem likeAt_in (ps : List Pers) (i k : Nat) : 0 ≤ likeAt ps i k ∧ likeAt ps i k ≤ 100 := by
  unfold likeAt
  cases ps[i]? <;> cases ps[k]? <;> simp [likeP_in]
/-- the greatest likeness of person i with those ahead of k, and of acc -/
def mostIn (ps : List Pers) (i : Nat) (acc : Int) : Nat → Int
  | 0 => acc
  | k + 1 => max (mostIn ps i acc k) (likeAt ps i k)
/-- the greatest likeness of two persons ahead of i -/
def mostUp (ps : List Pers) : Nat → Int
  | 0 => -1
  | i + 1 => mostIn ps i (mostUp ps i) i
theorem mostIn_in {ps : List Pers} {i : Nat} {acc : Int} (h : -1 ≤ acc ∧ acc ≤ 100) : ∀ k, -1 ≤ mostIn ps i acc k ∧ mostIn ps i acc k ≤ 100
  | 0 => h
  | k + 1 => by
    have h1 := mostIn_in (ps := ps) (i := i) h k
    have h2 := likeAt_in ps i k
    simp only [mostIn]; omega
theorem mostUp_in (ps : List Pers) : ∀ i, -1 ≤ mostUp ps i ∧ mostUp ps i ≤ 100
  | 0 => by simp [mostUp]
  | i + 1 => mostIn_in (mostUp_in ps i) i
theorem mostIn_ge {ps : List Pers} {i : Nat} {acc : Int} : ∀ k, acc ≤ mostIn ps i acc k ∧ ∀ j, j < k → likeAt ps i j ≤ mostIn ps i acc k
  | 0 => ⟨Int.le_refl _, fun j hj => by omega⟩
  | k + 1 => by
    obtain ⟨h1, h2⟩ := mostIn_ge (ps := ps) (i := i) (acc := acc) k
    simp only [mostIn]
    refine ⟨by omega, fun j hj => ?_⟩
    by_cases e : j = k
    · subst e; omega
    · have := h2 j (by omega); omega
theorem mostUp_ge (ps : List Pers) : ∀ n i k, k < i → i < n → likeAt ps i k ≤ mostUp ps n
  | 0, i, k, _, hi => by omega
  | n + 1, i, k, hk, hi => by
    simp only [mostUp]
    by_cases e : i = n
    · subst e; exact (mostIn_ge _).2 k hk
    · have := mostUp_ge ps n i k hk (by omega)
      have := (mostIn_ge (ps := ps) (i := n) (acc := mostUp ps n) n).1
      omega
/-- the answer of LeastSafeLimit -/
def safeR (ps : List Pers) : Int × Int := if arePers ps = true then (if mostUp ps ps.length = 100 then (0, 4) else (mostUp ps ps.length + 1, 0)) else (0, 1)

set_option maxRecDepth 100000 in
set_option maxHeartbeats 4000000 in
theorem implSafe_any (a : Option Addr) (len cap : Nat) (ps : List Pers) (w : World) (hl : ps.length = len) (hm : len ≤ maxLen) (hI : PersAt w a ps) (hF : Fits ps) (hcap : len ≤ cap ∧ cap ≤ maxLen) :
    Calls Try.prog 24 #[.slice a len cap] w (SaysV (two (safeR ps)) w) := by
  have HP := Lib.hid (implArePersons_any a len cap ps w hl hm hI hF)
  cases h1 : arePers ps
  · have HN := Lib.hid (show two (safeR ps) = .tuple #[.int .i64 0, .int .i64 1] by rw [safeR, if_neg (by rw [h1]; simp)]; rfl)
    rw [h1] at HP
    clear hl hI hF
    go_enter Try.func24, Try.ntmps24
    go_wp2_with fail
    refine HP.out.mono ?_; rintro e w1 ⟨rfl, hB⟩
    have HB := Lib.hid hB; clear hB
    go_wp2_with fail
    go_ret2
    exact ⟨ret_of HN.out.symm, HB.out⟩
  · have hm12 : len ≤ 12 := by have := arePers_len h1; omega
    have HR := Lib.hid (show two (safeR ps) = if mostUp ps len = 100 then .tuple #[.int .i64 0, .int .i64 4] else .tuple #[.int .i64 (mostUp ps len + 1), .int .i64 0] by
      rw [safeR, if_pos h1, hl]; split <;> rfl)
    rw [h1] at HP
    have HL := Lib.hid hl; have HI := Lib.hid hI; have HPP := Lib.hid h1
    obtain ⟨hc1, hc2⟩ := hcap
    unfold maxLen at hc2
    clear hl hI hF h1
    go_enter Try.func24, Try.ntmps24
    go_wp2_with fail
    refine HP.out.mono ?_; rintro e w1 ⟨rfl, hB⟩
    have HB0 := Lib.hid hB; clear hB
    go_wp2_with fail
    go_loopw [4, 14] (fun v c wr => ∃ i : Nat, i ≤ len ∧ c = .int .i64 i ∧ v = .int .i64 (mostUp ps i + 1) ∧ Below w.heap.size w wr) (fun _ c _ => len - (intOf c).toNat)
    case atStart => exact ⟨0, Nat.zero_le _, rfl, rfl, HB0.out⟩
    case round =>
      obtain ⟨i, hi, rfl, rfl, hB⟩ := hrel
      have HB := Lib.hid hB; clear hB
      have hmu := mostUp_in ps i
      by_cases hlt : i < len
      · obtain ⟨b, off, p, rfl, hc, hp⟩ := (HI.out.below HB.out).at HL.out hlt
        obtain ⟨c0, c1, c2, c3, c4⟩ := hc
        have hpp := arePers_at HPP.out hp
        have HPi := Lib.hid hp; clear hp
        have hcap2 : i ≤ cap := by omega
        go_wp2_with fail
        have HA0 := Lib.hid (atB_box wr p.num p.fst p.lst p.born p.zone 51)
        have HBq := Lib.hid (HB.out.alloc HB.out.size (.cells #[.int .i64 p.num, .string p.fst, .string p.lst, .int .i64 p.born, .int .i64 p.zone] 51))
        have HIq := Lib.hid (HI.out.below HBq.out)
        clear c0 c1 c2 c3 c4
        generalize wr.alloc (.cells #[.int .i64 p.num, .string p.fst, .string p.lst, .int .i64 p.born, .int .i64 p.zone] 51) = wA at HA0 HBq HIq ⊢
        generalize wr.heap.size = bA at HA0 ⊢
        go_loopw [4, 23] (fun v c w3 => ∃ k : Nat, k ≤ i ∧ c = .int .i64 k ∧ v = .int .i64 (mostIn ps i (mostUp ps i) k + 1) ∧ Below wA.heap.size wA w3) (fun _ c _ => i - (intOf c).toNat)
        case atStart => exact ⟨0, Nat.zero_le _, rfl, rfl, Below.refl _ _⟩
        case round =>
          obtain ⟨k, hk, rfl, rfl, hB⟩ := hrel
          have HBk := Lib.hid hB; clear hB
          have hmi := mostIn_in (ps := ps) (i := i) hmu k
          by_cases hlk : k < i
          · obtain ⟨b', off', q, e, hc, hq⟩ := (HIq.out.below HBk.out).at HL.out (show k < len by omega)
            cases e
            obtain ⟨c0, c1, c2, c3, c4⟩ := hc
            have hqq := arePers_at HPP.out hq
            have HMX := Lib.hid (show mostIn ps i (mostUp ps i) (k + 1) = max (mostIn ps i (mostUp ps i) k) (likeP p q) by rw [mostIn, likeAt_eq HPi.out hq])
            have hlk2 := likeP_in p q
            obtain ⟨d0, d1, d2, d3, d4⟩ := HA0.out.below HBk.out
            simp only at d0 d1 d2 d3 d4
            have HA1 := Lib.hid (atB_box wr q.num q.fst q.lst q.born q.zone 51)
            obtain ⟨e0, e1, e2, e3, e4⟩ := HA1.out
            simp only at e0 e1 e2 e3 e4
            have HB1 := Lib.hid (HBk.out.alloc HBk.out.size (.cells #[.int .i64 q.num, .string q.fst, .string q.lst, .int .i64 q.born, .int .i64 q.zone] 51))
            have hbx := boxed wr (.cells #[.int .i64 q.num, .string q.fst, .string q.lst, .int .i64 q.born, .int .i64 q.zone] 51)
            have d0 := cell_later hbx d0; have d1 := cell_later hbx d1; have d2 := cell_later hbx d2; have d3 := cell_later hbx d3; have d4 := cell_later hbx d4
            have HLk := Lib.hid (fun W => show Calls Try.prog 62 #[.agg #[.int .i64 p.num, .string p.fst, .string p.lst, .int .i64 p.born, .int .i64 p.zone], .agg #[.int .i64 q.num, .string q.fst, .string q.lst, .int .i64 q.born, .int .i64 q.zone]] W (SaysIB (likeP p q) W) from implLike_any p.num p.fst p.lst p.born p.zone q.num q.fst q.lst q.born q.zone W hpp hqq)
            generalize likeP p q = L at HMX hlk2 HLk
            generalize hX : mostIn ps i (mostUp ps i) k = X at HMX hmi ⊢
            clear hbx hq hpp hqq
            go_wp2_with fail
            clear c0 c1 c2 c3 c4 d0 d1 d2 d3 d4 e0 e1 e2 e3 e4
            refine (HLk.out _).mono ?_; rintro e w5 ⟨rfl, hB⟩
            have HB5 := Lib.hid (HB1.out.trans (hB.mono HB1.out.size)); clear hB
            go_wp2_with fail
            all_goals
              go_roundw
              case rel => exact ⟨k + 1, by omega, by go_num, by rw [HMX.out]; congr 1; omega, HB5.out⟩
              case measure => simp [intOf]; omega
          · obtain rfl : k = i := by omega
            go_wp2_with fail
            go_roundw
            case rel => exact ⟨k + 1, by omega, by go_num, rfl, HBq.out.trans (HBk.out.mono HBq.out.size)⟩
            case measure => simp [intOf]; omega
      · obtain rfl : i = len := by omega
        by_cases h100 : mostUp ps i = 100
        · have HN := Lib.hid (HR.out.trans (if_pos h100))
          have HQ := Lib.hid (implLimit5 (mostUp ps i + 1) wr)
          rw [show inR (mostUp ps i + 1) 0 100 = false from inR_no.2 (by omega)] at HQ
          clear h100 hmu
          go_wp2_with fail
          refine HQ.out.mono ?_; rintro e w' ⟨rfl, rfl⟩
          go_wp2_with fail
          go_ret2
          exact ⟨ret_of HN.out.symm, HB.out⟩
        · have HN := Lib.hid (HR.out.trans (if_neg h100))
          have HQ := Lib.hid (implLimit5 (mostUp ps i + 1) wr)
          rw [show inR (mostUp ps i + 1) 0 100 = true from inR_iff.2 (by omega)] at HQ
          clear h100 hmu
          go_wp2_with fail
          refine HQ.out.mono ?_; rintro e w' ⟨rfl, rfl⟩
          go_wp2_with fail
          go_ret2
          exact ⟨ret_of HN.out.symm, HB.out⟩

set_option maxRecDepth 100000 in
set_option maxHeartbeats 4000000 in
theorem specSafe_any (a : Option Addr) (len cap : Nat) (ps : List Pers) (w : World) (hl : ps.length = len) (hm : len ≤ maxLen) (hI : PersAt w a ps) (hF : Fits ps) :
    Calls Try.prog 25 #[.slice a len cap] w (SaysV (two (safeR ps)) w) := by
  have HP := Lib.hid (specArePersons_any a len cap ps w hl hm hI hF)
  cases h1 : arePers ps
  · have HN := Lib.hid (show two (safeR ps) = .tuple #[.int .i64 0, .int .i64 1] by rw [safeR, if_neg (by rw [h1]; simp)]; rfl)
    rw [h1] at HP
    clear hl hI hF
    go_enter Try.func25, Try.ntmps25
    go_wp2_with fail
    refine HP.out.mono ?_; rintro e w1 ⟨rfl, hB⟩
    have HB := Lib.hid hB; clear hB
    go_wp2_with fail
    go_ret2
    exact ⟨ret_of HN.out.symm, HB.out⟩
  · have hm12 : len ≤ 12 := by have := arePers_len h1; omega
    have HR := Lib.hid (show two (safeR ps) = if mostUp ps len = 100 then .tuple #[.int .i64 0, .int .i64 4] else .tuple #[.int .i64 (mostUp ps len + 1), .int .i64 0] by
      rw [safeR, if_pos h1, hl]; split <;> rfl)
    rw [h1] at HP
    have HL := Lib.hid hl; have HI := Lib.hid hI; have HPP := Lib.hid h1
    clear hl hI hF h1
    go_enter Try.func25, Try.ntmps25
    go_wp2_with fail
    refine HP.out.mono ?_; rintro e w1 ⟨rfl, hB⟩
    have HB0 := Lib.hid hB; clear hB
    go_wp2_with fail
    go_loopw [4, 5] (fun v c wr => ∃ i : Nat, i ≤ len ∧ c = .int .i64 i ∧ v = .int .i64 (mostUp ps i) ∧ Below w.heap.size w wr) (fun _ c _ => len - (intOf c).toNat)
    case atStart => exact ⟨0, Nat.zero_le _, rfl, rfl, HB0.out⟩
    case round =>
      obtain ⟨i, hi, rfl, rfl, hB⟩ := hrel
      have HB := Lib.hid hB; clear hB
      have hmu := mostUp_in ps i
      by_cases hlt : i < len
      · go_wp2_with fail
        go_loopw [4, 6] (fun v c w3 => ∃ k : Nat, k ≤ i ∧ c = .int .i64 k ∧ v = .int .i64 (mostIn ps i (mostUp ps i) k) ∧ Below w.heap.size w w3) (fun _ c _ => i - (intOf c).toNat)
        case atStart => exact ⟨0, Nat.zero_le _, rfl, rfl, HB.out⟩
        case round =>
          obtain ⟨k, hk, rfl, rfl, hB⟩ := hrel
          clear HB
          have HB := Lib.hid hB; clear hB
          have hmi := mostIn_in (ps := ps) (i := i) hmu k
          by_cases hlk : k < i
          · have hlk3 : k < len := by omega
            obtain ⟨b, off, p, rfl, hcp, hp⟩ := (HI.out.below HB.out).at HL.out hlt
            obtain ⟨b', off', q, e, hc, hq⟩ := (HI.out.below HB.out).at HL.out hlk3
            cases e
            obtain ⟨c0, c1, c2, c3, c4⟩ := hc
            obtain ⟨d0, d1, d2, d3, d4⟩ := hcp
            have hpp := arePers_at HPP.out hp
            have hqq := arePers_at HPP.out hq
            have HMX := Lib.hid (show mostIn ps i (mostUp ps i) (k + 1) = max (mostIn ps i (mostUp ps i) k) (likeP p q) by rw [mostIn, likeAt_eq hp hq])
            have hlk2 := likeP_in p q
            have HLk := Lib.hid (fun W => show Calls Try.prog 59 #[.agg #[.int .i64 p.num, .string p.fst, .string p.lst, .int .i64 p.born, .int .i64 p.zone], .agg #[.int .i64 q.num, .string q.fst, .string q.lst, .int .i64 q.born, .int .i64 q.zone]] W (SaysIB (likeP p q) W) from specLike_any p.num p.fst p.lst p.born p.zone q.num q.fst q.lst q.born q.zone W hpp hqq)
            generalize likeP p q = L at HMX hlk2 HLk
            generalize hX : mostIn ps i (mostUp ps i) k = X at HMX hmi ⊢
            clear hp hq hpp hqq
            go_wp2_with fail
            go_region_held (fun W => W.cell? ⟨b, off + i * 5, none⟩ = some (.int .i64 p.num) ∧ W.cell? ⟨b, off + i * 5 + 1, none⟩ = some (.string p.fst) ∧ W.cell? ⟨b, off + i * 5 + 2, none⟩ = some (.string p.lst) ∧ W.cell? ⟨b, off + i * 5 + 3, none⟩ = some (.int .i64 p.born) ∧ W.cell? ⟨b, off + i * 5 + 4, none⟩ = some (.int .i64 p.zone) ∧ W.cell? ⟨b, off + k * 5, none⟩ = some (.int .i64 q.num) ∧ W.cell? ⟨b, off + k * 5 + 1, none⟩ = some (.string q.fst) ∧ W.cell? ⟨b, off + k * 5 + 2, none⟩ = some (.string q.lst) ∧ W.cell? ⟨b, off + k * 5 + 3, none⟩ = some (.int .i64 q.born) ∧ W.cell? ⟨b, off + k * 5 + 4, none⟩ = some (.int .i64 q.zone)) (first | exact ⟨d0, d1, d2, d3, d4, c0, c1, c2, c3, c4⟩ | exact ⟨cell_later hBl d0, cell_later hBl d1, cell_later hBl d2, cell_later hBl d3, cell_later hBl d4, cell_later hBl c0, cell_later hBl c1, cell_later hBl c2, cell_later hBl c3, cell_later hBl c4⟩) ((go_at_call 59; refine (HLk.out wr.drew).mono ?_; rintro e w5 ⟨rfl, hB5⟩; have hBl : Below wr.heap.size wr w5 := (Below.drew (Below.refl wr.heap.size wr)).trans hB5))
            all_goals
              have HB5 := Lib.hid (HB.out.trans (hBl.mono HB.out.size))
              clear c0 c1 c2 c3 c4 d0 d1 d2 d3 d4 hB5 hBl
              go_wp2_with fail
              go_roundw
              case rel => exact ⟨k + 1, by omega, by go_num, by rw [HMX.out]; congr 1; omega, HB5.out⟩
              case measure => simp [intOf]; omega
          · obtain rfl : k = i := by omega
            go_wp2_with fail
            go_roundw
            case rel => exact ⟨k + 1, by omega, by go_num, rfl, HB.out⟩
            case measure => simp [intOf]; omega
      · obtain rfl : i = len := by omega
        by_cases h100 : mostUp ps i = 100
        · have HN := Lib.hid (HR.out.trans (if_pos h100))
          rw [h100]
          clear h100 hmu
          go_wp2_with fail
          go_ret2
          exact ⟨ret_of HN.out.symm, HB.out⟩
        · have HN := Lib.hid (HR.out.trans (if_neg h100))
          have hb : (mostUp ps i == 100) = false := beq_int h100
          clear h100
          generalize mostUp ps i = X at HN hb hmu ⊢
          go_wp2_with fail
          go_ret2
          exact ⟨ret_of HN.out.symm, HB.out⟩

end Go.Proofs.Ytdeiillfdjebdaa
