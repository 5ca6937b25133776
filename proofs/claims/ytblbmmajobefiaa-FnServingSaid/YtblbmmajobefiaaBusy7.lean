/- Contract of chapter 7's model: the busiest day. -/
import Derived.Test.YtblbmmajobefiaaChecked
import Derived.Test.YtblbmmajobefiaaBase
import Derived.Test.YtblbmmajobefiaaInfo
import Derived.Test.YtblbmmajobefiaaTermA
import Derived.Test.YtblbmmajobefiaaPure70
import Derived.Test.YtblbmmajobefiaaPure71
import Derived.Test.YtblbmmajobefiaaSpec7
import Derived.Test.YtblbmmajobefiaaSpec7b
import Derived.Test.YtblbmmajobefiaaIntL
import Derived.Test.YtblbmmajobefiaaServ7
import Derived.WalkKit
import Derived.WalkSpells
import Derived.WalkLawsBesides
import Derived.Lib.Hide
import Derived.IntWalk
import Derived.Outline
namespace Go.Proofs.Ytblbmmajobefiaa
open Go.RowKit Pure1 Pure2 Pure20 Pure40

/-- two numbers and a code are returned -/
def SaysNN (x y c : Int) (w : World) (e : Ending) (w' : World) : Prop := e = .returned (.tuple #[.int .i64 x, .int .i64 y, .int .i64 c]) ∧ Below w.heap.size w w'
theorem ret_nnn {x y c x' y' c' : Int} (h : x = x') (h1 : y = y') (h' : c = c') : Ending.returned (.tuple #[.int .i64 x, .int .i64 y, .int .i64 c]) = .returned (.tuple #[.int .i64 x', .int .i64 y', .int .i64 c']) := by rw [h, h1, h']

set_option maxRecDepth 100000 in
set_option maxHeartbeats 2000000 in
theorem specBusiest_any (a : Option Addr) (len cap : Nat) (ts : List Term) (w : World) (hl : ts.length = len) (hm : len ≤ maxLen) (h : Term.ListAt w a ts) :
    Calls Try.prog 31 #[.slice a len cap] w (SaysNN (busyR ts).1.1 (busyR ts).1.2 (busyR ts).2 w) := by
  have HC := Lib.hid (specCode7_any a len cap ts 1 0 w hl hm h)
  have HE := Lib.hid (show busyR ts = if codeT ts 1 0 = 0 then (if ts.length = 0 then ((0, 0), 4) else (busyL ts, 0)) else ((0, 0), codeT ts 1 0) from rfl)
  have HI := Lib.hid h; have HL := Lib.hid hl; clear h hl
  generalize busyR ts = v at HE ⊢
  rcases codeT_cases ts 1 0 with ⟨hc, hA, _, _⟩ | hc | hc
  · rw [hc] at HC HE
    have hm20 : len ≤ 20 := by rw [← HL.out]; exact areT_len hA
    have HA := Lib.hid hA
    clear hA hc
    by_cases h0 : len = 0
    · have HF := Lib.hid (show v = ((0, 0), 4) by rw [HE.out, if_pos rfl, if_pos (by rw [HL.out, h0])])
      subst h0
      go_enter Try.func31, Try.ntmps31
      go_wp2_with fail
      refine HC.out.mono ?_; rintro e w1 ⟨rfl, hB⟩
      have HB := Lib.hid hB; clear hB
      go_wp2_with fail
      go_ret3
      exact ⟨ret_nnn (by rw [HF.out]) (by rw [HF.out]) (by rw [HF.out]), HB.out⟩
    · have HF := Lib.hid (show v = (busyL ts, 0) by rw [HE.out, if_pos rfl, if_neg (by rw [HL.out]; exact h0)])
      have hb0 : ((len : Int) == 0) = false := beq_eq_false_iff_ne.2 (by omega)
      go_enter Try.func31, Try.ntmps31
      go_wp2_with fail
      refine HC.out.mono ?_; rintro e w1 ⟨rfl, hB⟩
      have HB := Lib.hid hB; clear hB
      go_wp2_with fail
      go_loopw [6, 7, 8] (fun bd mo i wr => ∃ (k : Nat) (d m : Int), k ≤ len ∧ i = .int .i64 k ∧ bd = .int .i64 d ∧ mo = .int .i64 m ∧ BusyTo ts k d m ∧ Below w.heap.size w wr) (fun _ _ i _ => len - (intOf i).toNat)
      case atStart => exact ⟨0, 0, 0, Nat.zero_le _, rfl, rfl, rfl, busyTo_zero ts, HB.out⟩
      case round =>
        obtain ⟨k, d, m, hk, rfl, rfl, rfl, hb, hB⟩ := hrel
        have HK := Lib.hid hb; have HW := Lib.hid hB; clear hb hB
        by_cases hlt : k < len
        · obtain ⟨b, off, c, rfl, hc, hp⟩ := (HI.out.below HW.out).at HL.out hlt
          have HP := Lib.hid hp; clear hp
          have HS := Lib.hid (specServing7_any (some ⟨b, off, none⟩) len cap ts c.frm wr HL.out hm20 (HI.out.below HW.out))
          obtain ⟨c0, c1, c2⟩ := hc
          have HT := Lib.hid (fun h => busyTo_take HA.out HK.out HP.out h)
          have HV := Lib.hid (fun h1 h2 => busyTo_leave HA.out HK.out HP.out h1 h2)
          generalize servL ts c.frm = zs at HS HT HV
          go_wp2_with fail
          refine HS.out.mono ?_; rintro e w2 ⟨v2, rfl, ho, hB⟩
          obtain ⟨⟨g, cap2, rfl⟩, _⟩ := id ho
          have HW2 := Lib.hid (HW.out.trans (hB.mono HW.out.size)); clear hB ho c0 c1 c2
          by_cases h1 : m < (zs.length : Int)
          · have HN := Lib.hid (HT.out (.inl h1))
            clear HT HV
            go_wp2_with fail
            go_roundw
            case rel => exact ⟨k + 1, _, _, by omega, by go_num, rfl, rfl, HN.out, HW2.out⟩
            case measure => simp [intOf]; omega
          · by_cases h2 : (zs.length : Int) = m
            · have e2 : ((zs.length : Int) == m) = true := beq_iff_eq.2 h2
              by_cases h3 : c.frm < d
              · have HN := Lib.hid (show BusyTo ts (k + 1) c.frm m by have := HT.out (.inr ⟨h2, h3⟩); rw [h2] at this; exact this)
                clear HT HV
                have h1b : decide (m < (zs.length : Int)) = false := decide_eq_false h1
                go_wp2_with fail
                go_roundw
                case rel => exact ⟨k + 1, _, _, by omega, by go_num, rfl, rfl, HN.out, HW2.out⟩
                case measure => simp [intOf]; omega
              · have HN := Lib.hid (HV.out (by omega) (fun h => h3 h.2))
                clear HT HV
                have h1b : decide (m < (zs.length : Int)) = false := decide_eq_false h1
                have h3b : decide (c.frm < d) = false := decide_eq_false h3
                go_wp2_with fail
                go_roundw
                case rel => exact ⟨k + 1, _, _, by omega, by go_num, rfl, rfl, HN.out, HW2.out⟩
                case measure => simp [intOf]; omega
            · have e2 : ((zs.length : Int) == m) = false := beq_eq_false_iff_ne.2 h2
              have HN := Lib.hid (HV.out (by omega) (fun h => h2 h.1))
              clear HT HV
              have h1b : decide (m < (zs.length : Int)) = false := decide_eq_false h1
              go_wp2_with fail
              go_roundw
              case rel => exact ⟨k + 1, _, _, by omega, by go_num, rfl, rfl, HN.out, HW2.out⟩
              case measure => simp [intOf]; omega
        · have HG := Lib.hid (busyL_eq (busyTo_end HA.out (show BusyTo ts ts.length d m by have := HK.out; rw [show k = ts.length by rw [HL.out]; omega] at this; exact this) (by rw [HL.out]; omega)))
          go_wp2_with fail
          go_ret3
          exact ⟨ret_nnn (by rw [HF.out, HG.out]) (by rw [HF.out, HG.out]) (by rw [HF.out]), HW.out⟩
  · rw [hc] at HC HE
    have HF := Lib.hid (show v = ((0, 0), 1) by rw [HE.out]; rfl)
    clear hc
    go_enter Try.func31, Try.ntmps31
    go_wp2_with fail
    refine HC.out.mono ?_; rintro e w1 ⟨rfl, hB⟩
    have HB := Lib.hid hB; clear hB
    go_wp2_with fail
    go_ret3
    exact ⟨ret_nnn (by rw [HF.out]) (by rw [HF.out]) (by rw [HF.out]), HB.out⟩
  · rw [hc] at HC HE
    have HF := Lib.hid (show v = ((0, 0), 2) by rw [HE.out]; rfl)
    clear hc
    go_enter Try.func31, Try.ntmps31
    go_wp2_with fail
    refine HC.out.mono ?_; rintro e w1 ⟨rfl, hB⟩
    have HB := Lib.hid hB; clear hB
    go_wp2_with fail
    go_ret3
    exact ⟨ret_nnn (by rw [HF.out]) (by rw [HF.out]) (by rw [HF.out]), HB.out⟩
end Go.Proofs.Ytblbmmajobefiaa
