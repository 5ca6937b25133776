/- Contracts of the program's chapter 7: a person's terms, days served, rested. (written by impl7.py) -/
import Derived.Test.YtblbmmajobefiaaChecked
import Derived.Test.YtblbmmajobefiaaBase
import Derived.Test.YtblbmmajobefiaaInfo
import Derived.Test.YtblbmmajobefiaaTermA
import Derived.Test.YtblbmmajobefiaaTermB
import Derived.Test.YtblbmmajobefiaaTermC
import Derived.Test.YtblbmmajobefiaaTermD
import Derived.Test.YtblbmmajobefiaaPure70
import Derived.Test.YtblbmmajobefiaaPure71
import Derived.Test.YtblbmmajobefiaaPure72
import Derived.Test.YtblbmmajobefiaaAreDays
import Derived.Test.YtblbmmajobefiaaPersNum
import Derived.Test.YtblbmmajobefiaaWithin
import Derived.Test.YtblbmmajobefiaaSort7
import Derived.Test.YtblbmmajobefiaaImpl7a
import Derived.Test.YtblbmmajobefiaaSpec7
import Derived.Test.YtblbmmajobefiaaSpec7b
import Derived.WalkKit
import Derived.WalkSpells
import Derived.WalkLawsBesides
import Derived.Lib.Hide
import Derived.Lib.QuietBelow
import Derived.IntWalk
import Derived.Deep.QuietTactic
import Derived.BigQuiet
import Derived.BigRegion
import Derived.OwnWalk
import Derived.RegionTactic
import Derived.Outline
namespace Go.Proofs.Ytblbmmajobefiaa
open Go.RowKit Go.Sort Pure1 Pure2 Pure20 Pure40

set_option maxHeartbeats 1000000 in
theorem implIncludes_any (c : Term) (d : Int) (w : World) :
    Calls Try.prog 79 #[.agg #[.int .i64 c.num, .int .i64 c.frm, .int .i64 c.to], .int .i64 d] w fun e w' => e = .returned (.bool (serves d c)) ∧ Below w.heap.size w w' := by
  have HA := Lib.hid (Term.boxed w c 32)
  have HW := Lib.hid (Term.bx w (.cells #[.int .i64 c.num, .int .i64 c.frm, .int .i64 c.to] 32))
  have H3 := Lib.hid (fun W => implWithin_any d c.frm c.to W)
  have HE := Lib.hid (show serves d c = inR d c.frm c.to from rfl)
  generalize serves d c = v at HE ⊢
  generalize inR d c.frm c.to = b3 at H3 HE
  go_enter Try.func79, Try.ntmps79
  obtain ⟨a0, a1, a2⟩ := HA.out
  go_wp2_with fail
  refine (H3.out _).mono ?_; rintro e w1 ⟨rfl, rfl⟩
  go_wp2_with fail
  go_ret
  exact ⟨ret_bool' HE.out.symm, HW.out⟩

set_option maxHeartbeats 1000000 in
theorem implDays7_any (c : Term) (w : World) (h : 0 ≤ c.frm ∧ c.frm ≤ c.to ∧ c.to ≤ 20000) :
    Calls Try.prog 76 #[.agg #[.int .i64 c.num, .int .i64 c.frm, .int .i64 c.to]] w fun e w' => e = .returned (.int .i64 (c.to - c.frm + 1)) ∧ Below w.heap.size w w' := by
  have HA := Lib.hid (Term.boxed w c 32)
  have HW := Lib.hid (Term.bx w (.cells #[.int .i64 c.num, .int .i64 c.frm, .int .i64 c.to] 32))
  have s1 : IntKind.i64.wrap (c.to - c.frm) = c.to - c.frm := IntWalk.i64_in _ (by omega)
  have s2 : IntKind.i64.wrap (c.to - c.frm + 1) = c.to - c.frm + 1 := IntWalk.i64_in _ (by omega)
  clear h
  go_enter Try.func76, Try.ntmps76
  obtain ⟨a0, a1, a2⟩ := HA.out
  go_wp2_with fail
  go_ret
  exact ⟨rfl, HW.out⟩

set_option maxRecDepth 100000 in
set_option maxHeartbeats 4000000 in
theorem implTermsOf_any (a : Option Addr) (len cap : Nat) (ts : List Term) (n : Int) (w : World) (hl : ts.length = len) (hm : len ≤ 20) (h : Term.ListAt w a ts) :
    Calls Try.prog 51 #[.slice a len cap, .int .i64 n] w (SaysTL (termsL ts n) w) := by
  have HL := Lib.hid hl; have HI := Lib.hid h; clear hl h
  have HO0 := Lib.hid (Term.Bd.nil w w.heap.size)
  go_enter Try.func51, Try.ntmps51
  go_wp2_with fail
  go_loopw [5, 7, 10] (fun v _ i wr => ∃ k : Nat, k ≤ len ∧ i = .int .i64 k ∧ Term.Bd wr w.heap.size v ((ts.take k).filter (fun c => decide (c.num = n))) ∧ Below w.heap.size w wr) (fun _ _ i _ => len - (intOf i).toNat)
  case atStart => exact ⟨0, Nat.zero_le _, rfl, HO0.out, Below.refl _ _⟩
  case round =>
    obtain ⟨k, hk, rfl, ho, hB⟩ := hrel
    have HO := Lib.hid ho; have HB := Lib.hid hB; clear ho hB
    by_cases hlt : k < len
    · obtain ⟨b, off, c, ha, hc, hp⟩ := (HI.out.below HB.out).at HL.out hlt
      have HP := Lib.hid hp; clear hp
      subst ha
      obtain ⟨c0, c1, c2⟩ := hc
      have HB2 := Lib.hid (HB.out.alloc HB.out.size (.cells #[.int .i64 c.num, .int .i64 c.frm, .int .i64 c.to] 32))
      obtain ⟨x0, x1, x2⟩ := Term.boxed wr c 32
      have hzl : ((ts.take k).filter (fun c => decide (c.num = n))).length ≤ 20 := by have := filter_len (fun c => decide (c.num = n)) (ts.take k); rw [List.length_take] at this; omega
      have HZ := Lib.hid hzl; clear hzl
      by_cases e : c.num = n
      · have HN := Lib.hid (take_filter_yes (p := fun c => decide (c.num = n)) HP.out (decide_eq_true e))
        subst e
        have eb : (c.num == c.num) = true := beq_iff_eq.2 rfl
        have HX := Lib.hid (Term.boxed wr c 32)
        have HO2 := Lib.hid ((HO.out.alloc (.cells #[.int .i64 c.num, .int .i64 c.frm, .int .i64 c.to] 32)).alloc (.cells #[.int .i64 c.num, .int .i64 c.frm, .int .i64 c.to] 32))
        have HB3 := Lib.hid (HB2.out.alloc HB2.out.size (.cells #[.int .i64 c.num, .int .i64 c.frm, .int .i64 c.to] 32))
        generalize (ts.take k).filter (fun c_1 => decide (c_1.num = c.num)) = zs at HO HN HZ HO2 ⊢
        go_wp2_with (at_builtin; refine wpList_terms_append rfl _ _ rfl _ zs rfl HO2.out _ 1 1 [c] rfl rfl (Term.lit_cells2 _ _ c _) ?c1 ?c2 ?_)
        case c1 => have := HZ.out; simp; omega
        case c2 => exact HB3.out.size
        intro v' w5 ho5 hg5
        have HO5 := Lib.hid ho5
        have HB5 := Lib.hid (HO2.out.grew HB3.out (Nat.le_refl _) HB3.out.size hg5)
        clear ho5 hg5 c0 c1 c2 x0 x1 x2
        go_wp2_with fail
        go_roundw
        case rel => exact ⟨k + 1, by omega, by go_num, by rw [HN.out]; exact HO5.out, HB5.out⟩
        case measure => simp [intOf]; omega
      · have HN := Lib.hid (take_filter_no (p := fun c => decide (c.num = n)) HP.out (decide_eq_false e))
        have eb : (c.num == n) = false := beq_eq_false_iff_ne.2 e
        have HO2 := Lib.hid (HO.out.alloc (.cells #[.int .i64 c.num, .int .i64 c.frm, .int .i64 c.to] 32))
        go_wp2_with fail
        go_roundw
        case rel => exact ⟨k + 1, by omega, by go_num, by rw [HN.out]; exact HO2.out, HB2.out⟩
        case measure => simp [intOf]; omega
    · have HK := Lib.hid (show termsL ts n = (ts.take k).filter (fun c => decide (c.num = n)) by unfold termsL; rw [List.take_of_length_le (by rw [HL.out]; omega)])
      go_wp2_with fail
      go_ret
      rw [HK.out]
      exact ⟨_, rfl, HO.out, HB.out⟩

set_option maxRecDepth 100000 in
set_option maxHeartbeats 4000000 in
theorem implServingOn_any (a : Option Addr) (len cap : Nat) (ts : List Term) (n : Int) (w : World) (hl : ts.length = len) (hm : len ≤ 20) (h : Term.ListAt w a ts) :
    Calls Try.prog 64 #[.slice a len cap, .int .i64 n] w (SaysTL (servesL ts n) w) := by
  have HL := Lib.hid hl; have HI := Lib.hid h; clear hl h
  have HO0 := Lib.hid (Term.Bd.nil w w.heap.size)
  go_enter Try.func64, Try.ntmps64
  go_wp2_with fail
  go_loopw [5, 7, 10] (fun v _ i wr => ∃ k : Nat, k ≤ len ∧ i = .int .i64 k ∧ Term.Bd wr w.heap.size v ((ts.take k).filter (serves n)) ∧ Below w.heap.size w wr) (fun _ _ i _ => len - (intOf i).toNat)
  case atStart => exact ⟨0, Nat.zero_le _, rfl, HO0.out, Below.refl _ _⟩
  case round =>
    obtain ⟨k, hk, rfl, ho, hB⟩ := hrel
    have HO := Lib.hid ho; have HB := Lib.hid hB; clear ho hB
    by_cases hlt : k < len
    · obtain ⟨b, off, c, ha, hc, hp⟩ := (HI.out.below HB.out).at HL.out hlt
      have HP := Lib.hid hp; clear hp
      subst ha
      obtain ⟨c0, c1, c2⟩ := hc
      have HB2 := Lib.hid (HB.out.alloc HB.out.size (.cells #[.int .i64 c.num, .int .i64 c.frm, .int .i64 c.to] 32))
      obtain ⟨x0, x1, x2⟩ := Term.boxed wr c 32
      have hzl : ((ts.take k).filter (serves n)).length ≤ 20 := by have := filter_len (serves n) (ts.take k); rw [List.length_take] at this; omega
      have HZ := Lib.hid hzl; clear hzl
      have HT := Lib.hid (implIncludes_any c n (wr.alloc (.cells #[.int .i64 c.num, .int .i64 c.frm, .int .i64 c.to] 32)))
      have HX := Lib.hid (Term.boxed wr c 32)
      have HO1 := Lib.hid (HO.out.alloc (.cells #[.int .i64 c.num, .int .i64 c.frm, .int .i64 c.to] 32))
      cases hv : serves n c
      · have HN := Lib.hid (take_filter_no (p := serves n) HP.out hv)
        rw [hv] at HT; clear hv
        go_wp2_with fail
        refine HT.out.mono ?_; rintro e w3 ⟨rfl, hB⟩
        have HB3 := Lib.hid (HB2.out.trans (hB.mono HB2.out.size)); have HO3 := Lib.hid (HO1.out.below hB); clear hB c0 c1 c2 x0 x1 x2
        go_wp2_with fail
        go_roundw
        case rel => exact ⟨k + 1, by omega, by go_num, by rw [HN.out]; exact HO3.out, HB3.out⟩
        case measure => simp [intOf]; omega
      · have HN := Lib.hid (take_filter_yes (p := serves n) HP.out hv)
        rw [hv] at HT; clear hv
        go_wp2_with fail
        refine HT.out.mono ?_; rintro e w3 ⟨rfl, hB⟩
        have HB3 := Lib.hid (HB2.out.trans (hB.mono HB2.out.size)); have HO3 := Lib.hid ((HO1.out.below hB).alloc (.cells #[.int .i64 c.num, .int .i64 c.frm, .int .i64 c.to] 32))
        have hx3 := HX.out.below hB
        have HB4 := Lib.hid (HB3.out.alloc HB3.out.size (.cells #[.int .i64 c.num, .int .i64 c.frm, .int .i64 c.to] 32))
        clear hB c0 c1 c2 x0 x1 x2
        obtain ⟨x0, x1, x2⟩ := hx3
        generalize (ts.take k).filter (serves n) = zs at HO HN HZ HO1 HO3 ⊢
        go_wp2_with (at_builtin; refine wpList_terms_append rfl _ _ rfl _ zs rfl HO3.out _ 1 1 [c] rfl rfl (Term.lit_cells _ c _) ?c1 ?c2 ?_)
        case c1 => have := HZ.out; simp; omega
        case c2 => have := HB4.out.size; exact this
        intro v' w5 ho5 hg5
        have HO5 := Lib.hid ho5
        have HB5 := Lib.hid (HO3.out.grew HB4.out (Nat.le_refl _) HB4.out.size hg5)
        clear ho5 hg5 x0 x1 x2
        go_wp2_with fail
        go_roundw
        case rel => exact ⟨k + 1, by omega, by go_num, by rw [HN.out]; exact HO5.out, HB5.out⟩
        case measure => simp [intOf]; omega
    · have HK := Lib.hid (show servesL ts n = (ts.take k).filter (serves n) by unfold servesL; rw [List.take_of_length_le (by rw [HL.out]; omega)])
      go_wp2_with fail
      go_ret
      rw [HK.out]
      exact ⟨_, rfl, HO.out, HB.out⟩

set_option maxRecDepth 100000 in
set_option maxHeartbeats 2000000 in
theorem implServedDays_any (a : Option Addr) (len cap : Nat) (ts : List Term) (n : Int) (w : World) (hl : ts.length = len) (hA : areT ts = true) (h : Term.ListAt w a ts) :
    Calls Try.prog 59 #[.slice a len cap, .int .i64 n] w fun e w' => e = .returned (.int .i64 (daysL ts n)) ∧ Below w.heap.size w w' := by
  have hm : len ≤ 20 := by rw [← hl]; exact areT_len hA
  have HC := Lib.hid (implTermsOf_any a len cap ts n w hl hm h)
  have HD := Lib.hid (spanTo_all ts n)
  have hok : ∀ c ∈ termsL ts n, 0 ≤ c.frm ∧ c.frm ≤ c.to ∧ c.to ≤ 20000 := fun c hc => by have := areT_mem hA (termsL_mem.1 hc).1; omega
  have hlo : (termsL ts n).length ≤ 20 := by have := filter_len (fun c => decide (c.num = n)) ts; unfold termsL; omega
  have HOK := Lib.hid hok
  generalize termsL ts n = os at HC HD HOK hlo
  generalize daysL ts n = r at HD ⊢
  clear h hA hl hok
  go_enter Try.func59, Try.ntmps59
  go_wp2_with fail
  refine HC.out.mono ?_; rintro e w1 ⟨v, rfl, ho, hB⟩
  obtain ⟨a1, cap1, rfl, hr⟩ := ho.slice
  have HI := Lib.hid hr; have HB := Lib.hid hB; clear ho hB hr
  obtain ⟨lo, hlo'⟩ : ∃ lo, os.length = lo := ⟨_, rfl⟩
  have HL := Lib.hid hlo'
  rw [hlo'] at hlo ⊢
  clear hlo'
  go_wp2_with fail
  go_loopw [5, 7, 12] (fun v _ i wr => ∃ k : Nat, k ≤ lo ∧ i = .int .i64 k ∧ v = .int .i64 (spanTo os k) ∧ Below w1.heap.size w1 wr) (fun _ _ i _ => lo - (intOf i).toNat)
  case atStart => exact ⟨0, Nat.zero_le _, rfl, rfl, Below.refl _ _⟩
  case round =>
    obtain ⟨k, hk, rfl, rfl, hB⟩ := hrel
    have HBr := Lib.hid hB; clear hB
    by_cases hlt : k < lo
    · obtain ⟨b, off, c, ha, hc, hp⟩ := (HI.out.below HBr.out).at HL.out hlt
      have hbd := spanTo_bd HOK.out k (by rw [HL.out]; omega)
      have hct := HOK.out c (List.mem_of_getElem? hp)
      have HP := Lib.hid (spanTo_step hp); clear hp
      subst ha
      obtain ⟨c0, c1, c2⟩ := hc
      have HB2 := Lib.hid (HBr.out.alloc HBr.out.size (.cells #[.int .i64 c.num, .int .i64 c.frm, .int .i64 c.to] 32))
      obtain ⟨x0, x1, x2⟩ := Term.boxed wr c 32
      have HT := Lib.hid (implDays7_any c (wr.alloc (.cells #[.int .i64 c.num, .int .i64 c.frm, .int .i64 c.to] 32)) hct)
      have s1 : IntKind.i64.wrap (spanTo os k + (c.to - c.frm + 1)) = spanTo os k + (c.to - c.frm + 1) := IntWalk.i64_in _ (by omega)
      clear hbd hct
      generalize c.to - c.frm + 1 = dd at HT s1 HP
      go_wp2_with fail
      refine HT.out.mono ?_; rintro e w3 ⟨rfl, hB⟩
      have HB3 := Lib.hid (HB2.out.trans (hB.mono HB2.out.size)); clear hB c0 c1 c2 x0 x1 x2
      go_wp2_with fail
      go_roundw
      case rel => exact ⟨k + 1, by omega, by go_num, by rw [HP.out], HB3.out⟩
      case measure => simp [intOf]; omega
    · have HK := Lib.hid (show spanTo os k = r by rw [← HD.out, HL.out, show k = lo by omega])
      go_wp2_with fail
      go_ret
      exact ⟨ret_i64 HK.out, HB.out.trans (HBr.out.mono HB.out.size)⟩

set_option maxRecDepth 100000 in
set_option maxHeartbeats 2000000 in
theorem implDaysServed_any (a : Option Addr) (len cap : Nat) (ts : List Term) (n : Int) (w : World) (hl : ts.length = len) (hm : len ≤ maxLen) (h : Term.ListAt w a ts) :
    Calls Try.prog 24 #[.slice a len cap, .int .i64 n] w (SaysN (daysR ts n).1 (daysR ts n).2 w) := by
  have HC := Lib.hid (implErr7_any a len cap ts n 0 [] none 0 0 w hl hm h rfl (by omega) (.inl rfl) rfl)
  have HE := Lib.hid (show daysR ts n = if codeT ts n 0 = 0 then (daysL ts n, 0) else (0, codeT ts n 0) from rfl)
  have HI := Lib.hid h; have HL := Lib.hid hl; clear h hl
  generalize daysR ts n = v at HE ⊢
  rcases codeT_cases ts n 0 with ⟨hc, hA, hn1, hd1⟩ | hc | hc
  · rw [hc] at HC HE
    have HA := Lib.hid hA
    have hm20 : len ≤ 20 := by rw [← HL.out]; exact areT_len hA
    clear hA hc
    go_enter Try.func24, Try.ntmps24
    go_wp2_with fail
    refine HC.out.mono ?_; rintro e w1 ⟨rfl, hB⟩
    have HB := Lib.hid (show Below w.heap.size w w1 from hB); clear hB
    go_wp2_with fail
    refine (implServedDays_any a len cap ts n w1 HL.out HA.out (HI.out.below HB.out)).mono ?_; rintro e w2 ⟨rfl, hB⟩
    have HB2 := Lib.hid (HB.out.trans (hB.mono HB.out.size)); clear hB
    go_wp2_with fail
    go_ret2
    exact ⟨ret_nn (by rw [HE.out]; rfl) (by rw [HE.out]; rfl), HB2.out⟩
  · rw [hc] at HC HE
    clear hc
    go_enter Try.func24, Try.ntmps24
    go_wp2_with fail
    refine HC.out.mono ?_; rintro e w1 ⟨rfl, hB⟩
    have HB := Lib.hid (show Below w.heap.size w w1 from hB); clear hB
    go_wp2_with fail
    go_ret2
    exact ⟨ret_nn (by rw [HE.out]; rfl) (by rw [HE.out]; rfl), HB.out⟩
  · rw [hc] at HC HE
    clear hc
    go_enter Try.func24, Try.ntmps24
    go_wp2_with fail
    refine HC.out.mono ?_; rintro e w1 ⟨rfl, hB⟩
    have HB := Lib.hid (show Below w.heap.size w w1 from hB); clear hB
    go_wp2_with fail
    go_ret2
    exact ⟨ret_nn (by rw [HE.out]; rfl) (by rw [HE.out]; rfl), HB.out⟩

set_option maxRecDepth 100000 in
set_option maxHeartbeats 2000000 in
theorem implIsRested_any (a : Option Addr) (len cap : Nat) (ts : List Term) (n d : Int) (w : World) (hl : ts.length = len) (hm : len ≤ maxLen) (h : Term.ListAt w a ts) :
    Calls Try.prog 18 #[.slice a len cap, .int .i64 n, .int .i64 d] w (SaysBN (restedR ts n d).1 (restedR ts n d).2 w) := by
  have HW0 := Lib.hid (Term.bx w (.cells #[.int .i64 d] 2))
  have HC := Lib.hid (implErr7_any a len cap ts n d [d] (some ⟨w.heap.size, 0, none⟩) 1 1 (w.alloc (.cells #[.int .i64 d] 2)) hl hm (h.below HW0.out) rfl (by omega) (one_day w d) (all_one d))
  have HE := Lib.hid (show restedR ts n d = if codeT ts n d = 0 then (restedL ts n d, 0) else (false, codeT ts n d) from rfl)
  have HI := Lib.hid h; have HL := Lib.hid hl; clear h hl
  generalize restedR ts n d = v at HE ⊢
  rcases codeT_cases ts n d with ⟨hc, hA, hn1, hd1⟩ | hc | hc
  · rw [hc] at HC HE
    have HA := Lib.hid hA
    have hm20 : len ≤ 20 := by rw [← HL.out]; exact areT_len hA
    clear hA hc
    go_enter Try.func18, Try.ntmps18
    go_wp2_with fail
    refine HC.out.mono ?_; rintro e w1 ⟨rfl, hB⟩
    have HB := Lib.hid (show Below w.heap.size w w1 from (HW0.out.trans (hB.mono HW0.out.size))); clear hB
    go_wp2_with fail
    refine (implTermsOf_any a len cap ts n w1 HL.out hm20 (HI.out.below HB.out)).mono ?_; rintro e w2 ⟨v2, rfl, ho, hB⟩
    obtain ⟨a1, cap1, rfl, hr⟩ := ho.slice
    have HI2 := Lib.hid hr; have HB2 := Lib.hid (HB.out.trans (hB.mono HB.out.size)); clear ho hB hr
    have HNO := Lib.hid (fun (k : Nat) (c : Term) => rested_no (ts := ts) (n := n) (d := d) (k := k) (c := c))
    have HYE := Lib.hid (fun (k : Nat) => rested_yes (ts := ts) (n := n) (d := d) (k := k))
    have hok : ∀ c ∈ termsL ts n, 0 ≤ c.frm ∧ c.frm ≤ c.to ∧ c.to ≤ 20000 := fun c hc => by have := areT_mem HA.out (termsL_mem.1 hc).1; omega
    have HOK := Lib.hid hok
    have hlo : (termsL ts n).length ≤ 20 := by have := filter_len (fun c => decide (c.num = n)) ts; have := HL.out; unfold termsL; omega
    clear hok
    generalize restedL ts n d = r at HE HNO HYE
    generalize termsL ts n = os at HI2 HNO HYE HOK hlo ⊢
    obtain ⟨lo, hlo'⟩ : ∃ lo, os.length = lo := ⟨_, rfl⟩
    have HLO := Lib.hid hlo'
    rw [hlo'] at hlo ⊢
    clear hlo'
    go_wp2_with fail
    go_loopw [10, 23] (fun _ i wr => ∃ k : Nat, k ≤ lo ∧ i = .int .i64 k ∧ (∀ (i : Nat) c, i < k → os[i]? = some c → ¬ (c.frm < d ∧ d - c.to < 730)) ∧ Below w.heap.size w wr ∧ Below w2.heap.size w2 wr) (fun _ i _ => lo - (intOf i).toNat)
    case atStart => exact ⟨0, Nat.zero_le _, rfl, (fun i c hi => by omega), HB2.out, Below.refl _ _⟩
    case round =>
      obtain ⟨k, hk, rfl, hA, hB, hBr⟩ := hrel
      have HK := Lib.hid hA; have HW := Lib.hid hB; have HBr := Lib.hid hBr; clear hA hB hBr
      by_cases hlt : k < lo
      · obtain ⟨b, off, c, ha, hc, hp⟩ := (HI2.out.below HBr.out).at HLO.out hlt
        have hct := HOK.out c (List.mem_of_getElem? hp)
        have HP := Lib.hid hp; clear hp
        subst ha
        obtain ⟨c0, c1, c2⟩ := hc
        have HW2 := Lib.hid (HW.out.alloc HW.out.size (.cells #[.int .i64 c.num, .int .i64 c.frm, .int .i64 c.to] 32))
        have HBr2 := Lib.hid (HBr.out.alloc HBr.out.size (.cells #[.int .i64 c.num, .int .i64 c.frm, .int .i64 c.to] 32))
        obtain ⟨x0, x1, x2⟩ := Term.boxed wr c 32
        have s1 : IntKind.i64.wrap (d - c.to) = d - c.to := IntWalk.i64_in _ (by omega)
        clear hct
        by_cases e1 : c.frm < d
        · by_cases e2 : d - c.to < 730
          · have HF := Lib.hid (HNO.out k c HP.out e1 e2)
            go_wp2_with fail
            go_ret2
            exact ⟨ret_bn (by rw [HE.out]; exact HF.out.symm) (by rw [HE.out]; rfl), HW2.out⟩
          · have HF := Lib.hid (show ∀ (i : Nat) x, i < k + 1 → os[i]? = some x → ¬ (x.frm < d ∧ d - x.to < 730) from fun i x hi hx => by
              by_cases e : i = k
              · subst e; rw [HP.out] at hx; cases hx; exact fun h => e2 h.2
              · exact HK.out i x (by omega) hx)
            have e2b : decide (d - c.to < 730) = false := decide_eq_false e2
            go_wp2_with fail
            go_roundw
            case rel => exact ⟨k + 1, by omega, by go_num, HF.out, HW2.out, HBr2.out⟩
            case measure => simp [intOf]; omega
        · have HF := Lib.hid (show ∀ (i : Nat) x, i < k + 1 → os[i]? = some x → ¬ (x.frm < d ∧ d - x.to < 730) from fun i x hi hx => by
            by_cases e : i = k
            · subst e; rw [HP.out] at hx; cases hx; exact fun h => e1 h.1
            · exact HK.out i x (by omega) hx)
          have e1b : decide (c.frm < d) = false := decide_eq_false e1
          go_wp2_with fail
          go_roundw
          case rel => exact ⟨k + 1, by omega, by go_num, HF.out, HW2.out, HBr2.out⟩
          case measure => simp [intOf]; omega
      · have HF := Lib.hid (HYE.out k (fun i c hi hc => HK.out i c hi hc) (by rw [HLO.out]; omega))
        go_wp2_with fail
        go_ret2
        exact ⟨ret_bn (by rw [HE.out]; exact HF.out.symm) (by rw [HE.out]; rfl), HW.out⟩
  · rw [hc] at HC HE
    clear hc
    go_enter Try.func18, Try.ntmps18
    go_wp2_with fail
    refine HC.out.mono ?_; rintro e w1 ⟨rfl, hB⟩
    have HB := Lib.hid (show Below w.heap.size w w1 from (HW0.out.trans (hB.mono HW0.out.size))); clear hB
    go_wp2_with fail
    go_ret2
    exact ⟨ret_bn (by rw [HE.out]; rfl) (by rw [HE.out]; rfl), HB.out⟩
  · rw [hc] at HC HE
    clear hc
    go_enter Try.func18, Try.ntmps18
    go_wp2_with fail
    refine HC.out.mono ?_; rintro e w1 ⟨rfl, hB⟩
    have HB := Lib.hid (show Below w.heap.size w w1 from (HW0.out.trans (hB.mono HW0.out.size))); clear hB
    go_wp2_with fail
    go_ret2
    exact ⟨ret_bn (by rw [HE.out]; rfl) (by rw [HE.out]; rfl), HB.out⟩

set_option maxHeartbeats 400000 in
theorem implRes7_any (r : Int) (w : World) :
    Calls Try.prog 52 #[.int .i64 r] w fun e w' => e = .returned (.tuple #[.int .i64 (if 20000 < r then ((0 : Int), (3 : Int)) else (r, 0)).1, .int .i64 (if 20000 < r then ((0 : Int), (3 : Int)) else (r, 0)).2]) ∧ w' = w := by
  by_cases h : 20000 < r
  · have HN := Lib.hid (show (if 20000 < r then ((0 : Int), (3 : Int)) else (r, 0)) = (0, 3) from if_pos h)
    generalize (if 20000 < r then ((0 : Int), (3 : Int)) else (r, 0)) = p at HN ⊢
    go_enter Try.func52, Try.ntmps52
    go_wp2
    go_ret2
    exact ⟨ret_nn (by rw [HN.out]) (by rw [HN.out]), rfl⟩
  · have HN := Lib.hid (show (if 20000 < r then ((0 : Int), (3 : Int)) else (r, 0)) = (r, 0) from if_neg h)
    generalize (if 20000 < r then ((0 : Int), (3 : Int)) else (r, 0)) = p at HN ⊢
    go_enter Try.func52, Try.ntmps52
    go_wp2
    go_ret2
    exact ⟨ret_nn (by rw [HN.out]) (by rw [HN.out]), rfl⟩

set_option maxRecDepth 100000 in
set_option maxHeartbeats 2000000 in
theorem implRestedFrom_any (a : Option Addr) (len cap : Nat) (ts : List Term) (n d : Int) (w : World) (hl : ts.length = len) (hm : len ≤ maxLen) (h : Term.ListAt w a ts) :
    Calls Try.prog 15 #[.slice a len cap, .int .i64 n, .int .i64 d] w (SaysN (restFromR ts n d).1 (restFromR ts n d).2 w) := by
  have HW0 := Lib.hid (Term.bx w (.cells #[.int .i64 d] 2))
  have HC := Lib.hid (implErr7_any a len cap ts n d [d] (some ⟨w.heap.size, 0, none⟩) 1 1 (w.alloc (.cells #[.int .i64 d] 2)) hl hm (h.below HW0.out) rfl (by omega) (one_day w d) (all_one d))
  have HE := Lib.hid (show restFromR ts n d = if codeT ts n d = 0 then fromL ts n d else (0, codeT ts n d) from rfl)
  have HI := Lib.hid h; have HL := Lib.hid hl; clear h hl
  generalize restFromR ts n d = v at HE ⊢
  rcases codeT_cases ts n d with ⟨hc, hA, hn1, hd1⟩ | hc | hc
  · rw [hc] at HC HE
    have HA := Lib.hid hA
    have hm20 : len ≤ 20 := by rw [← HL.out]; exact areT_len hA
    clear hA hc
    go_enter Try.func15, Try.ntmps15
    go_wp2_with fail
    refine HC.out.mono ?_; rintro e w1 ⟨rfl, hB⟩
    have HB := Lib.hid (show Below w.heap.size w w1 from (HW0.out.trans (hB.mono HW0.out.size))); clear hB
    go_wp2_with fail
    refine (implTermsOf_any a len cap ts n w1 HL.out hm20 (HI.out.below HB.out)).mono ?_; rintro e w2 ⟨v2, rfl, ho, hB⟩
    obtain ⟨a1, cap1, rfl, hr⟩ := ho.slice
    have hlo : (termsL ts n).length ≤ 20 := by have := filter_len (fun c => decide (c.num = n)) ts; have := HL.out; unfold termsL; omega
    have HCD := Lib.hid (implByDay_any a1 (termsL ts n).length cap1 (termsL ts n) w2 rfl hlo hr)
    have HB2 := Lib.hid (HB.out.trans (hB.mono HB.out.size)); clear ho hB hr
    have HLD := Lib.hid (byDayL_length (termsL ts n))
    have HT0 := Lib.hid (restTo_zero ts n d)
    have HTT := Lib.hid (fun (k : Nat) (f : Int) (c : Term) (h : RestTo ts n d k f) => restTo_take (c := c) h)
    have HTL := Lib.hid (fun (k : Nat) (f : Int) (c : Term) (h : RestTo ts n d k f) => restTo_leave (c := c) h)
    have HTE := Lib.hid (fun (k : Nat) (f : Int) (h : RestTo ts n d k f) => restTo_end h)
    have HTO := Lib.hid (fun (k : Nat) (c : Term) (hp : (byDayL (termsL ts n))[k]? = some c) => (areT_mem HA.out (termsL_mem.1 ((byDayL_perm _).mem_iff.1 (List.mem_of_getElem? hp))).1).2)
    have HTB := Lib.hid (fun (k : Nat) (f : Int) (c : Term) (hf : d ≤ f ∧ f ≤ 20730) => restTo_bd (n := n) (k := k) (c := c) HA.out hd1 hf)
    generalize fromL ts n d = r at HE HTE
    go_wp2_with fail
    refine HCD.out.mono ?_; rintro e w3 ⟨v3, rfl, ho, hB⟩
    obtain ⟨a2, cap2, rfl, hr⟩ := ho.slice
    have HI2 := Lib.hid hr; have HB3 := Lib.hid (HB2.out.trans (hB.mono HB2.out.size)); clear ho hB hr
    rw [HLD.out]
    have HLO := Lib.hid HLD.out
    generalize RestTo ts n d = RT at HT0 HTT HTL HTE
    generalize byDayL (termsL ts n) = os at HI2 HTT HTL HTE HTB HLO HTO
    obtain ⟨lo, hlo'⟩ : ∃ lo, (termsL ts n).length = lo := ⟨_, rfl⟩
    rw [hlo'] at hlo HLO ⊢
    clear hlo' HLD
    go_wp2_with fail
    go_loopw [9, 11, 26] (fun f _ i wr => ∃ (k : Nat) (x : Int), k ≤ lo ∧ i = .int .i64 k ∧ f = .int .i64 x ∧ (d ≤ x ∧ x ≤ 20730) ∧ RT k x ∧ Below w.heap.size w wr ∧ Below w3.heap.size w3 wr) (fun _ _ i _ => lo - (intOf i).toNat)
    case atStart => exact ⟨0, d, Nat.zero_le _, rfl, rfl, ⟨Int.le_refl _, by omega⟩, HT0.out, HB3.out, Below.refl _ _⟩
    case round =>
      obtain ⟨k, x, hk, rfl, rfl, hx, hR, hB, hBr⟩ := hrel
      have HR := Lib.hid hR; have HW := Lib.hid hB; have HBr := Lib.hid hBr; clear hR hB hBr
      by_cases hlt : k < lo
      · obtain ⟨b, off, c, ha, hc, hp⟩ := (HI2.out.below HBr.out).at HLO.out hlt
        have HP := Lib.hid hp; clear hp
        subst ha
        obtain ⟨c0, c1, c2⟩ := hc
        have HW2 := Lib.hid (HW.out.alloc HW.out.size (.cells #[.int .i64 c.num, .int .i64 c.frm, .int .i64 c.to] 32))
        have HBr2 := Lib.hid (HBr.out.alloc HBr.out.size (.cells #[.int .i64 c.num, .int .i64 c.frm, .int .i64 c.to] 32))
        obtain ⟨x0, x1, x2⟩ := Term.boxed wr c 32
        have hbd := HTB.out k x c hx HP.out
        have hge : c.to + 730 ≤ max x (c.to + 730) := Int.le_max_right _ _
        have hgx : x ≤ max x (c.to + 730) := Int.le_max_left _ _
        by_cases e1 : c.frm < x
        · have HN := Lib.hid (HTT.out k x c HR.out HP.out e1)
          have HV := Lib.hid hbd
          have HG := Lib.hid hgx
          have s1 : IntKind.i64.wrap (c.to + 730) = c.to + 730 := IntWalk.i64_in _ (by have := HTO.out k c HP.out; omega)
          clear hbd hge hgx
          go_wp2_with fail
          all_goals
            go_roundw
            case rel => exact ⟨k + 1, _, by omega, by go_num, by first | rfl | (congr 1; omega), ⟨by have := HG.out; omega, by have := HV.out; omega⟩, HN.out, HW2.out, HBr2.out⟩
            case measure => simp [intOf]; omega
        · have HN := Lib.hid (HTL.out k x c HR.out HP.out (by omega))
          have e1b : decide (c.frm < x) = false := decide_eq_false e1
          clear hbd hge hgx
          go_wp2_with fail
          go_roundw
          case rel => exact ⟨k + 1, x, by omega, by go_num, rfl, hx, HN.out, HW2.out, HBr2.out⟩
          case measure => simp [intOf]; omega
      · have HF := Lib.hid (HTE.out k x HR.out (by rw [HLO.out]; omega))
        go_wp2_with fail
        refine (implRes7_any _ _).mono ?_; rintro e w4 ⟨rfl, rfl⟩
        rw [← HF.out]
        go_wp2_with fail
        go_ret2
        exact ⟨ret_nn (by rw [HE.out]; rfl) (by rw [HE.out]; rfl), HW.out⟩
  · rw [hc] at HC HE
    clear hc
    go_enter Try.func15, Try.ntmps15
    go_wp2_with fail
    refine HC.out.mono ?_; rintro e w1 ⟨rfl, hB⟩
    have HB := Lib.hid (show Below w.heap.size w w1 from (HW0.out.trans (hB.mono HW0.out.size))); clear hB
    go_wp2_with fail
    go_ret2
    exact ⟨ret_nn (by rw [HE.out]; rfl) (by rw [HE.out]; rfl), HB.out⟩
  · rw [hc] at HC HE
    clear hc
    go_enter Try.func15, Try.ntmps15
    go_wp2_with fail
    refine HC.out.mono ?_; rintro e w1 ⟨rfl, hB⟩
    have HB := Lib.hid (show Below w.heap.size w w1 from (HW0.out.trans (hB.mono HW0.out.size))); clear hB
    go_wp2_with fail
    go_ret2
    exact ⟨ret_nn (by rw [HE.out]; rfl) (by rw [HE.out]; rfl), HB.out⟩

end Go.Proofs.Ytblbmmajobefiaa
