/- Contracts of chapter 8's model: replays, chances. -/
import Derived.Test.YtmpopfcnjgcncaaChecked
import Derived.Test.YtmpopfcnjgcncaaBase
import Derived.Test.YtmpopfcnjgcncaaInfo
import Derived.Test.YtmpopfcnjgcncaaMarkI
import Derived.Test.YtmpopfcnjgcncaaPure30
import Derived.Test.YtmpopfcnjgcncaaPure60
import Derived.Test.YtmpopfcnjgcncaaPure40
import Derived.Test.YtmpopfcnjgcncaaPure80
import Derived.Test.YtmpopfcnjgcncaaIntL
import Derived.Test.YtmpopfcnjgcncaaBuildI
import Derived.Test.YtmpopfcnjgcncaaBuild8
import Derived.Test.YtmpopfcnjgcncaaRowV
import Derived.Test.YtmpopfcnjgcncaaPoolA
import Derived.Test.YtmpopfcnjgcncaaSpec80
import Derived.Test.YtmpopfcnjgcncaaSpec81
import Derived.Test.YtmpopfcnjgcncaaSpec82
import Derived.Test.YtmpopfcnjgcncaaSpec83
import Derived.WalkKit
import Derived.WalkSpells
import Derived.WalkLawsBesides
import Derived.Lib.Hide
import Derived.Lib.QuietBelow
import Derived.IntWalk
import Derived.Deep.QuietTactic
import Derived.Deep.RegionHeld3
import Derived.BigQuiet
import Derived.Outline
namespace Go.Proofs.Ytmpopfcnjgcncaa
open Go.RowKit Pure1 Pure2 Pure30 Pure40 Pure60 Pure80 Rec

set_option maxHeartbeats 400000 in
theorem specSame8 (a a' : Option Addr) (len cap len' cap' : Nat) (xs ys : List Int) (w : World) (hl : xs.length = len) (hl' : ys.length = len') (hm : len ≤ maxLen) (hm' : len' ≤ maxLen) (h : IntsAt w a xs) (h' : IntsAt w a' ys) :
    Calls Try.prog 58 #[.slice a len cap, .slice a' len' cap'] w (SaysB (sameL xs ys) w) := by
  unfold maxLen at hm hm'
  by_cases hne : len = len'
  · subst hne
    have HL := Lib.hid hl; have HL' := Lib.hid hl'; have HI := Lib.hid h; have HI' := Lib.hid h'; clear hl hl' h h'
    go_enter Try.func58, Try.ntmps58
    go_wp2
    go_loopw [5] (fun i wr => ∃ k n : Nat, k ≤ len ∧ i = .int .i64 k ∧ wr = w.drewN n ∧ xs.take k = ys.take k) (fun i _ => len - (intOf i).toNat)
    case atStart => exact ⟨0, 0, Nat.zero_le _, rfl, rfl, rfl⟩
    case round =>
      obtain ⟨k, n, hk, rfl, rfl, ht⟩ := hrel
      have HT := Lib.hid ht; clear ht
      by_cases hlt : k < len
      · obtain ⟨b, off, x, ha, hc, ht, hx⟩ := HI.out.at HL.out hlt
        obtain ⟨b', off', y, ha', hc', ht', hy⟩ := HI'.out.at HL'.out hlt
        subst ha; subst ha'
        by_cases hxy : x = y
        · subst hxy
          have HN := Lib.hid (show xs.take (k+1) = ys.take (k+1) by rw [ht, ht', HT.out]); clear ht ht' hx hy
          go_wp2
          go_quiet (fail)
          go_wp2
          go_roundw
          case rel => exact ⟨k + 1, _, by omega, by go_num, rfl, HN.out⟩
          case measure => simp [intOf]; omega
        · have HN := Lib.hid (sameL_at hx hy hxy); clear ht ht' hx hy
          have hxy' : (x != y) = true := by rw [bne_iff_ne]; exact hxy
          clear hxy
          go_wp2
          go_quiet (fail)
          go_wp2
          go_ret
          exact ⟨ret_bool' HN.out.symm, _, drewN_add _ _ _⟩
      · have HN := Lib.hid (sameL_end HT.out (by rw [HL.out]; omega) (by rw [HL'.out]; omega))
        go_wp2
        go_ret
        exact ⟨ret_bool' HN.out.symm, _, rfl⟩
  · have HN := Lib.hid (sameL_len (xs := xs) (ys := ys) (by rw [hl, hl']; exact hne))
    have hne' : ((len : Int) != len') = true := by rw [bne_iff_ne]; omega
    clear hl hl' h h' hne
    go_enter Try.func58, Try.ntmps58
    go_wp2
    go_ret
    exact ⟨ret_bool' HN.out.symm, 0, rfl⟩

theorem gcd_mod {x y : Int} (hx : 0 ≤ x) (hy : 0 ≤ y) : Int.gcd y (x % y) = Int.gcd x y := by
  obtain ⟨X, rfl⟩ := Int.eq_ofNat_of_zero_le hx
  obtain ⟨Y, rfl⟩ := Int.eq_ofNat_of_zero_le hy
  rw [← Int.natCast_emod, Int.gcd_natCast_natCast, Int.gcd_natCast_natCast, Nat.gcd_comm X Y, Nat.gcd_rec Y X, Nat.gcd_comm]
theorem specAbs8 (n : Int) (w : World) (h : 0 ≤ n ∧ n ≤ 1000000) :
    Calls Try.prog 87 #[.int .i64 n] w fun e w' => e = .returned (.int .i64 n) ∧ w' = w := by
  have HM := Lib.hid (show max n (-n) = n by omega)
  have q1 : IntKind.i64.wrap (-n) = -n := IntWalk.i64_in _ (by omega)
  go_enter Try.func87, Try.ntmps87
  go_wp2
  go_ret
  exact ⟨ret_i64 (by first | exact HM.out | omega), rfl⟩

set_option maxHeartbeats 1000000 in
theorem specGcd8 (a b : Int) (w : World) (ha : 0 ≤ a ∧ a ≤ 1000000) (hb : 0 ≤ b ∧ b ≤ 1000000) :
    Calls Try.prog 81 #[.int .i64 a, .int .i64 b] w fun e w' => e = .returned (.int .i64 (Int.gcd a b)) ∧ ∃ n, w' = w.drewN n := by
  have H1 := Lib.hid (specAbs8 a w ha)
  have H2 := Lib.hid (specAbs8 b w hb)
  go_enter Try.func81, Try.ntmps81
  go_wp2_with fail
  refine H1.out.mono ?_; rintro e w1 ⟨rfl, rfl⟩
  go_wp2_with fail
  refine H2.out.mono ?_; rintro e w2 ⟨rfl, rfl⟩
  go_wp2_with fail
  go_loopw [0, 1] (fun va vb wr => ∃ (x y : Int) (n : Nat), va = .int .i64 x ∧ vb = .int .i64 y ∧ (0 ≤ x ∧ x ≤ 1000000) ∧ (0 ≤ y ∧ y ≤ 1000000) ∧ Int.gcd x y = Int.gcd a b ∧ wr = w2.drewN n) (fun _ vb _ => (intOf vb).toNat)
  case atStart => exact ⟨a, b, 0, rfl, rfl, ha, hb, rfl, rfl⟩
  case round =>
    obtain ⟨x, y, n, rfl, rfl, hx, hy, hg, rfl⟩ := hrel
    have HG := Lib.hid hg; clear hg
    by_cases h0 : y = 0
    · subst h0
      go_wp2
      go_ret
      refine ⟨ret_i64 ?_, n, rfl⟩
      rw [← HG.out, Int.gcd_zero_right]; omega
    · have hn : (y != 0) = true := by rw [bne_iff_ne]; exact h0
      have hm0 := Int.emod_nonneg x h0
      have hm1 := Int.emod_lt_of_pos x (show 0 < y by omega)
      have HS := Lib.hid (show Int.gcd y (x % y) = Int.gcd a b by rw [← HG.out]; exact gcd_mod hx.1 hy.1)
      go_wp2
      go_quiet (fail)
      go_wp2
      go_roundw
      case rel => exact ⟨y, x % y, _, rfl, rfl, hy, ⟨hm0, by omega⟩, HS.out, drewN_add _ _ _⟩
      case measure => simp [intOf]; omega

set_option maxHeartbeats 1000000 in
theorem specFraction8 (a b : Int) (w : World) (ha : 0 ≤ a ∧ a ≤ 1000000) (hb : 0 < b ∧ b ≤ 1000000) :
    Calls Try.prog 71 #[.int .i64 a, .int .i64 b] w fun e w' => e = .returned (.tuple #[.int .i64 (a / Int.gcd a b), .int .i64 (b / Int.gcd a b)]) ∧ ∃ n, w' = w.drewN n := by
  have HC := Lib.hid (specGcd8 a b w ha (by omega))
  have hp : 0 < Int.gcd a b := Int.gcd_pos_of_ne_zero_right _ (by omega)
  have hle : Int.gcd a b ≤ 1000000 := by
    have := Int.le_of_dvd hb.1 (Int.gcd_dvd_right a b)
    omega
  generalize Int.gcd a b = g at HC hp hle ⊢
  have hn : ((g : Int) == 0) = false := beq_eq_false_iff_ne.2 (by omega)
  have hn2 : (g : Int) ≠ 0 := by omega
  have q1 := Int.ediv_nonneg ha.1 (show (0 : Int) ≤ g by omega)
  have q2 := Int.ediv_nonneg (show (0 : Int) ≤ b by omega) (show (0 : Int) ≤ g by omega)
  have q3 : a / (g : Int) ≤ 1000000 := Int.le_trans (Int.ediv_le_self _ ha.1) ha.2
  have q4 : b / (g : Int) ≤ 1000000 := Int.le_trans (Int.ediv_le_self _ (by omega)) hb.2
  go_enter Try.func71, Try.ntmps71
  go_wp2_with fail
  refine HC.out.mono ?_; rintro e w1 ⟨rfl, n, rfl⟩
  go_wp2
  go_quiet (fail)
  go_wp2
  go_ret2
  exact ⟨rfl, _, drewN_add _ _ _⟩

/-- values are returned; nothing that was there has turned -/
def Says8 (v : Value) (w : World) (e : Ending) (w' : World) : Prop := e = .returned v ∧ Below w.heap.size w w'
theorem chanceC_why {p : PoolV} {k : Int} (hd : isPool p = true → p.drawn.length ≤ p.nums.length) : (isPool p = false ∧ chanceC p k = 1) ∨ (isPool p = true ∧ inR k 0 60 = false ∧ chanceC p k = 2) ∨ (isPool p = true ∧ inR k 0 60 = true ∧ (p.nums.length : Int) - p.drawn.length = 0 ∧ chanceC p k = 4) ∨
    (isPool p = true ∧ inR k 0 60 = true ∧ (p.nums.length : Int) - p.drawn.length ≠ 0 ∧ (p.nums.length : Int) - p.drawn.length < k ∧ chanceC p k = 3) ∨ (isPool p = true ∧ inR k 0 60 = true ∧ (p.nums.length : Int) - p.drawn.length ≠ 0 ∧ ¬ (p.nums.length : Int) - p.drawn.length < k ∧ chanceC p k = 0) := by
  unfold chanceC
  cases hp : isPool p with
  | false => exact .inl ⟨rfl, by simp⟩
  | true =>
    have h0 := hd hp
    cases hk : inR k 0 60 with
    | false => exact .inr (.inl ⟨rfl, rfl, by rw [if_pos rfl, if_neg (inR_no hk)]⟩)
    | true =>
      have hk' := inR_yes hk
      by_cases h1 : (p.nums.length : Int) - p.drawn.length = 0
      · exact .inr (.inr (.inl ⟨rfl, rfl, h1, by rw [if_pos rfl, if_pos hk', if_pos (by omega)]⟩))
      · by_cases h2 : (p.nums.length : Int) - p.drawn.length < k
        · exact .inr (.inr (.inr (.inl ⟨rfl, rfl, h1, h2, by rw [if_pos rfl, if_pos hk', if_neg (by omega), if_pos h2]⟩)))
        · exact .inr (.inr (.inr (.inr ⟨rfl, rfl, h1, h2, by rw [if_pos rfl, if_pos hk', if_neg (by omega), if_neg h2]⟩)))

set_option maxRecDepth 100000 in
set_option maxHeartbeats 4000000 in
theorem specChance8_any (a0 : Option Addr) (l0 c0 : Nat) (a1 : Option Addr) (l1 c1 : Nat) (p : PoolV) (k : Int) (w : World) (hI : PoolV.In w a0 l0 a1 l1 p) (hc1 : l1 ≤ c1) :
    Calls Try.prog 33 #[.agg #[.slice a0 l0 c0, .slice a1 l1 c1, .int .i64 p.state], .int .i64 k] w (Says8 (.tuple #[.int .i64 (chanceR p k).1, .int .i64 (chanceR p k).2.1, .int .i64 (chanceR p k).2.2]) w) := by
  have HW := Lib.hid (boxed w (.cells #[.slice a0 l0 c0, .slice a1 l1 c1, .int .i64 p.state] 26))
  have HX := Lib.hid (PoolV.boxed w a0 l0 c0 a1 l1 c1 p 26)
  have hm0 := hI.1.2.1
  have hm1 := hI.2.2.1
  unfold maxLen at hm0 hm1
  have HC := Lib.hid (specIsPool8_any a0 l0 c0 a1 l1 c1 p (w.alloc (.cells #[.slice a0 l0 c0, .slice a1 l1 c1, .int .i64 p.state] 26)) (hI.below HW.out) hc1)
  have HD := Lib.hid (fun W => specIn8 k 0 60 W)
  have HE := Lib.hid (show chanceR p k = if chanceC p k = 0 then (k / Int.gcd k ((p.nums.length : Int) - p.drawn.length), ((p.nums.length : Int) - p.drawn.length) / Int.gcd k ((p.nums.length : Int) - p.drawn.length), 0) else (0, 0, chanceC p k) from rfl)
  have hw0 : IntKind.i64.wrap ((l0 : Int) - l1) = (l0 : Int) - l1 := IntWalk.i64_in _ (by omega)
  have hwhy := chanceC_why (p := p) (k := k) pool_dlen
  have hp60 := pool_len (p := p)
  rw [hI.1.1] at HE hwhy hp60
  rw [hI.2.1] at HE hwhy
  clear hI
  generalize chanceR p k = r at HE ⊢
  rcases hwhy with ⟨hp, h⟩ | ⟨hp, h1, h⟩ | ⟨hp, h1, h2, h⟩ | ⟨hp, h1, h2, h3, h⟩ | ⟨hp, h1, h2, h3, h⟩
  · rw [hp] at HC
    rw [h] at HE
    have HF := Lib.hid (show r = (0, 0, 1) by rw [HE.out]; rfl)
    clear hp h HE hp60
    go_enter Try.func33, Try.ntmps33
    obtain ⟨x0, x1, x2⟩ := HX.out
    go_wp2_with fail
    refine HC.out.mono ?_; rintro e w1 ⟨rfl, hB⟩
    have HB := Lib.hid (HW.out.trans (hB.mono HW.out.size))
    clear hB x0 x1 x2 HX HW HC
    go_wp2_with fail
    go_ret3
    rw [HF.out]
    exact ⟨rfl, HB.out⟩
  · rw [hp] at HC
    rw [h] at HE
    rw [h1] at HD
    have HF := Lib.hid (show r = (0, 0, 2) by rw [HE.out]; rfl)
    clear hp h HE hp60 h1
    go_enter Try.func33, Try.ntmps33
    obtain ⟨x0, x1, x2⟩ := HX.out
    go_wp2_with fail
    refine HC.out.mono ?_; rintro e w1 ⟨rfl, hB⟩
    have HB := Lib.hid (HW.out.trans (hB.mono HW.out.size))
    clear hB x0 x1 x2 HX HW HC
    go_wp2_with fail
    refine (HD.out _).mono ?_; rintro e w2 ⟨rfl, rfl⟩
    go_wp2_with fail
    go_ret3
    rw [HF.out]
    exact ⟨rfl, HB.out⟩
  · rw [hp] at HC
    rw [h] at HE
    rw [h1] at HD
    have HF := Lib.hid (show r = (0, 0, 4) by rw [HE.out]; rfl)
    clear hp h HE hp60 h1
    go_enter Try.func33, Try.ntmps33
    obtain ⟨x0, x1, x2⟩ := HX.out
    go_wp2_with fail
    refine HC.out.mono ?_; rintro e w1 ⟨rfl, hB⟩
    have HB := Lib.hid (HW.out.trans (hB.mono HW.out.size))
    clear hB x0 x1 x2 HX HW HC
    go_wp2_with fail
    refine (HD.out _).mono ?_; rintro e w2 ⟨rfl, rfl⟩
    go_wp2_with fail
    go_ret3
    rw [HF.out]
    exact ⟨rfl, HB.out⟩
  · rw [hp] at HC
    rw [h] at HE
    rw [h1] at HD
    have HF := Lib.hid (show r = (0, 0, 3) by rw [HE.out]; rfl)
    clear hp h HE hp60 h1
    go_enter Try.func33, Try.ntmps33
    obtain ⟨x0, x1, x2⟩ := HX.out
    go_wp2_with fail
    refine HC.out.mono ?_; rintro e w1 ⟨rfl, hB⟩
    have HB := Lib.hid (HW.out.trans (hB.mono HW.out.size))
    clear hB x0 x1 x2 HX HW HC
    have hz : ((l0 : Int) - l1 == 0) = false := beq_eq_false_iff_ne.2 h2
    go_wp2_with fail
    refine (HD.out _).mono ?_; rintro e w2 ⟨rfl, rfl⟩
    go_wp2_with fail
    go_ret3
    rw [HF.out]
    exact ⟨rfl, HB.out⟩
  · rw [hp] at HC
    rw [h] at HE
    rw [h1] at HD
    have hp1 := hp60 hp
    have hk := inR_yes h1
    have HG := Lib.hid (fun W => specFraction8 k ((l0 : Int) - l1) W (by omega) (by omega))
    have HF := Lib.hid (show r = (k / Int.gcd k ((l0 : Int) - l1), ((l0 : Int) - l1) / Int.gcd k ((l0 : Int) - l1), 0) by rw [HE.out]; rfl)
    generalize k / Int.gcd k ((l0 : Int) - l1) = g1 at HF HG
    generalize ((l0 : Int) - l1) / Int.gcd k ((l0 : Int) - l1) = g2 at HF HG
    clear hp h HE hp60 h1
    go_enter Try.func33, Try.ntmps33
    obtain ⟨x0, x1, x2⟩ := HX.out
    go_wp2_with fail
    refine HC.out.mono ?_; rintro e w1 ⟨rfl, hB⟩
    have HB := Lib.hid (HW.out.trans (hB.mono HW.out.size))
    clear hB x0 x1 x2 HX HW HC
    have hz : ((l0 : Int) - l1 == 0) = false := beq_eq_false_iff_ne.2 h2
    go_wp2_with fail
    refine (HD.out _).mono ?_; rintro e w2 ⟨rfl, rfl⟩
    go_wp2_with fail
    refine (HG.out _).mono ?_; rintro e w3 ⟨rfl, n, rfl⟩
    go_wp2_with fail
    go_ret3
    rw [HF.out]
    exact ⟨rfl, Go.below_drewN HB.out _⟩
end Go.Proofs.Ytmpopfcnjgcncaa
