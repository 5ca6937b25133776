/- Contracts of the program's chapter 7: one term, neighbours, terms, the first error. (written by impl7.py) -/
import Derived.Test.YtblbmmajobefiaaChecked
import Derived.Test.YtblbmmajobefiaaBase
import Derived.Test.YtblbmmajobefiaaInfo
import Derived.Test.YtblbmmajobefiaaTermA
import Derived.Test.YtblbmmajobefiaaTermB
import Derived.Test.YtblbmmajobefiaaTermC
import Derived.Test.YtblbmmajobefiaaTermD
import Derived.Test.YtblbmmajobefiaaPure70
import Derived.Test.YtblbmmajobefiaaPure71
import Derived.Test.YtblbmmajobefiaaPure72
import Derived.Test.YtblbmmajobefiaaAreDays
import Derived.Test.YtblbmmajobefiaaPersNum
import Derived.Test.YtblbmmajobefiaaWithin
import Derived.Test.YtblbmmajobefiaaSort7
import Derived.Test.YtblbmmajobefiaaSpec7
import Derived.WalkKit
import Derived.WalkSpells
import Derived.WalkLawsBesides
import Derived.Lib.Hide
import Derived.Lib.QuietBelow
import Derived.IntWalk
import Derived.Deep.QuietTactic
import Derived.BigQuiet
import Derived.BigRegion
import Derived.OwnWalk
import Derived.RegionTactic
import Derived.Outline
namespace Go.Proofs.Ytblbmmajobefiaa
open Go.RowKit Go.Sort Pure1 Pure2 Pure20 Pure40


theorem one_day (w : World) (d : Int) : IntsAt (w.alloc (.cells #[.int .i64 d] 2)) (some ⟨w.heap.size, 0, none⟩) [d] := by
  refine .inr ⟨w.heap.size, 0, rfl, fun i x hx => ?_⟩
  have hi : i < 1 := (List.getElem?_eq_some_iff.1 hx).1
  obtain rfl : i = 0 := by omega
  cases hx
  unfold World.cell?; rw [heap_alloc_new]; rfl
theorem all_one (d : Int) : [d].all isDay = isDay d := by simp

set_option maxRecDepth 100000 in
set_option maxHeartbeats 1000000 in
theorem implIsTerm_any (c : Term) (w : World) :
    Calls Try.prog 61 #[.agg #[.int .i64 c.num, .int .i64 c.frm, .int .i64 c.to]] w fun e w' => e = .returned (.bool (okT c)) ∧ Below w.heap.size w w' := by
  have HA := Lib.hid (Term.boxed w c 32)
  have HW := Lib.hid (Term.bx w (.cells #[.int .i64 c.num, .int .i64 c.frm, .int .i64 c.to] 32))
  have H1 := Lib.hid (fun W => implPersNum_any c.num W)
  have H2 := Lib.hid (fun W => implAreDays_any (some ⟨W.heap.size, 0, none⟩) 1 1 [c.frm] (W.alloc (.cells #[.int .i64 c.frm] 2)) rfl (by omega) (one_day W c.frm))
  rw [all_one] at H2
  have H3 := Lib.hid (fun W => implWithin_any c.to c.frm 20000 W)
  have HE := Lib.hid (okT_eq c)
  generalize okT c = v at HE ⊢
  generalize inR c.num 1 1000000 = b1 at H1 HE
  generalize isDay c.frm = b2 at H2 HE
  generalize inR c.to c.frm 20000 = b3 at H3 HE
  go_enter Try.func61, Try.ntmps61
  obtain ⟨a0, a1, a2⟩ := HA.out
  go_wp2_with fail
  refine (H1.out _).mono ?_; rintro e w1 ⟨rfl, hw⟩
  have hA1 : Term.Box w1 w.heap.size c := by rw [hw]; exact HA.out
  have HB1 := Lib.hid (show Below w.heap.size w w1 by rw [hw]; exact HW.out)
  clear a0 a1 a2 hw
  cases b1
  · obtain ⟨a0, a1, a2⟩ := hA1
    go_wp2_with fail
    go_ret
    exact ⟨ret_bool' (by rw [HE.out]; rfl), HB1.out⟩
  · have HA1 := Lib.hid hA1
    obtain ⟨a0, a1, a2⟩ := hA1
    go_wp2_with fail
    refine (H2.out w1).mono ?_; rintro e w2 ⟨rfl, hw⟩
    have hB2 : Below w1.heap.size w1 w2 := by rw [← hw]; exact Term.bx w1 _
    have hA2 := HA1.out.below hB2
    have HB2 := Lib.hid (HB1.out.trans (hB2.mono HB1.out.size))
    clear a0 a1 a2 hw hB2
    cases b2
    · obtain ⟨a0, a1, a2⟩ := hA2
      go_wp2_with fail
      go_ret
      exact ⟨ret_bool' (by rw [HE.out]; rfl), HB2.out⟩
    · obtain ⟨a0, a1, a2⟩ := hA2
      go_wp2_with fail
      refine (H3.out _).mono ?_; rintro e w3 ⟨rfl, hw⟩
      subst hw
      go_wp2_with fail
      go_ret
      exact ⟨ret_bool' (by rw [HE.out]; rfl), HB2.out⟩

theorem Term.boxed2 (w : World) (o1 : Obj) (c : Term) (T : TypeId) : Term.Box ((w.alloc o1).alloc (.cells #[.int .i64 c.num, .int .i64 c.frm, .int .i64 c.to] T)) (w.heap.size + 1) c := by
  have h := Term.boxed (w.alloc o1) c T
  rw [show (w.alloc o1).heap.size = w.heap.size + 1 by simp] at h
  exact h
set_option maxRecDepth 100000 in
set_option maxHeartbeats 4000000 in
theorem implAreApart_any (a : Option Addr) (len cap : Nat) (ts : List Term) (w : World) (hl : ts.length = len) (hm : len ≤ 20) (h : Term.ListAt w a ts) :
    Calls Try.prog 62 #[.slice a len cap] w fun e w' => e = .returned (.bool (apartB ts)) ∧ Below w.heap.size w w' := by
  have HC := Lib.hid (implByPerson_any a len cap ts w hl hm h)
  have HL := Lib.hid (show (byPersL ts).length = len by rw [byPersL_length, hl])
  have HN := Lib.hid (fun (i : Nat) x y => apartB_no (ts := ts) (i := i) (a := x) (b := y))
  have HY := Lib.hid (apartB_yes (ts := ts))
  generalize byPersL ts = os at HC HL HN HY
  generalize apartB ts = r at HN HY ⊢
  clear h hl
  go_enter Try.func62, Try.ntmps62
  go_wp2_with fail
  refine HC.out.mono ?_; rintro e w1 ⟨v, rfl, ho, hB⟩
  obtain ⟨a1, cap1, rfl, hr⟩ := ho.slice
  have HO := Lib.hid hr; have HB := Lib.hid hB; clear ho hB hr
  rw [HL.out]
  go_wp2_with fail
  go_loopw [4, 5, 6] (fun i _ _ wr => ∃ n : Nat, n + 1 ≤ len + 1 ∧ i = .int .i64 ((n : Int) + 1) ∧ ApartTo os (n + 1) ∧ Below w1.heap.size w1 wr) (fun i _ _ _ => len + 1 - (intOf i).toNat)
  case atStart => exact ⟨0, by omega, rfl, apartTo_one os, Below.refl _ _⟩
  case round =>
    obtain ⟨n, hn, rfl, hA, hB⟩ := hrel
    have HA := Lib.hid hA; have HBr := Lib.hid hB; clear hA hB
    by_cases hlt : n + 1 < len
    · obtain ⟨b, off, x, ha, hx, hpx⟩ := (HO.out.below HBr.out).at HL.out (show n < len by omega)
      obtain ⟨b', off', y, ha', hy, hpy⟩ := (HO.out.below HBr.out).at HL.out hlt
      subst ha
      cases ha'
      have HX := Lib.hid hpx; have HYY := Lib.hid hpy; clear hpx hpy
      have HB2 := Lib.hid (HBr.out)
      have z1 : (n : Int) + 1 < (len : Int) := by omega
      have z2 : (n : Int) < (len : Int) := by omega
      have z3 : (0 : Int) ≤ (n : Int) + 1 := by omega
      have z4 : ((n : Int) + 1).toNat = n + 1 := by omega
      have z5 : IntKind.i64.wrap (n : Int) = (n : Int) := IntWalk.i64_in _ (by omega)
      obtain ⟨x0, x1, x2⟩ := hx
      obtain ⟨y0, y1, y2⟩ := hy
      have mixed : Try.prog.follows .mixedOrders = true := by kernel_rfl
      have hb1 := fun o1 => Term.bx wr o1
      have hb2 := fun o1 o2 => (Term.bx wr o1).trans ((Term.bx (wr.alloc o1) o2).mono (Term.bx wr o1).size)
      have u0 := fun o1 => cell_later (hb1 o1) x0; have p0 := fun o1 o2 => cell_later (hb2 o1 o2) x0
      have u1 := fun o1 => cell_later (hb1 o1) x1; have p1 := fun o1 o2 => cell_later (hb2 o1 o2) x1
      have u2 := fun o1 => cell_later (hb1 o1) x2; have p2 := fun o1 o2 => cell_later (hb2 o1 o2) x2
      have v0 := fun o1 => cell_later (hb1 o1) y0; have q0 := fun o1 o2 => cell_later (hb2 o1 o2) y0
      have v1 := fun o1 => cell_later (hb1 o1) y1; have q1 := fun o1 o2 => cell_later (hb2 o1 o2) y1
      have v2 := fun o1 => cell_later (hb1 o1) y2; have q2 := fun o1 o2 => cell_later (hb2 o1 o2) y2
      have HB3 := Lib.hid (fun o1 o2 => HBr.out.trans ((hb2 o1 o2).mono HBr.out.size))
      clear hb1 hb2
      have fX := fun o2 => (Term.boxed wr x 32).below (Term.bx _ o2)
      have fY := fun o2 => (Term.boxed wr y 32).below (Term.bx _ o2)
      have gX := fun o1 => Term.boxed2 wr o1 x 32
      have gY := fun o1 => Term.boxed2 wr o1 y 32
      have a0 := fun o2 => (fX o2).1; have a1 := fun o2 => (fX o2).2.1; have a2 := fun o2 => (fX o2).2.2
      have b0 := fun o2 => (fY o2).1; have b1 := fun o2 => (fY o2).2.1; have b2 := fun o2 => (fY o2).2.2
      have d0 := fun o1 => (gX o1).1; have d1 := fun o1 => (gX o1).2.1; have d2 := fun o1 => (gX o1).2.2
      have e0 := fun o1 => (gY o1).1; have e1 := fun o1 => (gY o1).2.1; have e2 := fun o1 => (gY o1).2.2
      clear fX fY gX gY
      by_cases h1 : y.num = x.num
      · have h1b : (y.num == x.num) = true := beq_iff_eq.2 h1
        by_cases h2 : y.frm ≤ x.to
        · have HF := Lib.hid (HN.out n x y HX.out HYY.out h1 h2)
          clear h1
          go_wp2
          go_big_region_o
          all_goals
            go_wp2
            go_ret
            exact ⟨ret_bool' HF.out.symm, HB.out.trans ((HB3.out _ _).mono HB.out.size).drew⟩
        · have HF := Lib.hid (apartTo_step HA.out HX.out HYY.out (fun h => h2 h.2))
          have h2b : decide (y.frm ≤ x.to) = false := decide_eq_false h2
          clear h1
          go_wp2
          go_big_region_o
          all_goals
            go_wp2
            go_roundw
            case rel => exact ⟨n + 1, by omega, by go_num, HF.out, (HB3.out _ _).drew⟩
            case measure => simp [intOf]; omega
      · have HF := Lib.hid (apartTo_step HA.out HX.out HYY.out (fun h => h1 h.1))
        have h1b : (y.num == x.num) = false := beq_eq_false_iff_ne.2 h1
        clear h1
        go_wp2
        go_big_region_o
        all_goals
          go_wp2
          go_roundw
          case rel => exact ⟨n + 1, by omega, by go_num, HF.out, (HB3.out _ _).drew⟩
          case measure => simp [intOf]; omega
    · have HT := Lib.hid (HY.out (apartTo_end HA.out (by rw [HL.out]; omega)))
      have z1 : decide ((n : Int) + 1 < (len : Int)) = false := decide_eq_false (by omega)
      go_wp2_with fail
      go_ret
      exact ⟨ret_bool' HT.out.symm, HB.out.trans (HBr.out.mono HB.out.size)⟩

theorem all_next {ts : List Term} {k : Nat} {c : Term} (h : ∀ (i : Nat) x, i < k → ts[i]? = some x → okT x = true) (hc : ts[k]? = some c) (hv : okT c = true) : ∀ (i : Nat) x, i < k + 1 → ts[i]? = some x → okT x = true := by
  intro i x hi hx
  by_cases e : i = k
  · subst e; rw [hc] at hx; cases hx; exact hv
  · exact h i x (by omega) hx
set_option maxRecDepth 100000 in
set_option maxHeartbeats 2000000 in
theorem implAreTerms_any (a : Option Addr) (len cap : Nat) (ts : List Term) (w : World) (hl : ts.length = len) (hm : len ≤ maxLen) (h : Term.ListAt w a ts) :
    Calls Try.prog 27 #[.slice a len cap] w fun e w' => e = .returned (.bool (areT ts)) ∧ Below w.heap.size w w' := by
  unfold maxLen at hm
  have HL := Lib.hid hl; have HI := Lib.hid h; clear hl h
  by_cases h20 : 20 < len
  · have HN := Lib.hid (areT_long (ts := ts) (by rw [HL.out]; exact h20))
    go_enter Try.func27, Try.ntmps27
    go_wp2_with fail
    go_ret
    exact ⟨ret_bool' HN.out.symm, Below.refl _ _⟩
  · have h20b : decide ((len : Int) > 20) = false := decide_eq_false (by omega)
    have h20' : len ≤ 20 := by omega
    go_enter Try.func27, Try.ntmps27
    go_wp2_with fail
    go_loopw [4, 10] (fun _ i wr => ∃ k : Nat, k ≤ len ∧ i = .int .i64 k ∧ (∀ (i : Nat) x, i < k → ts[i]? = some x → okT x = true) ∧ Below w.heap.size w wr) (fun _ i _ => len - (intOf i).toNat)
    case atStart => exact ⟨0, Nat.zero_le _, rfl, (fun i x hi => by omega), Below.refl _ _⟩
    case round =>
      obtain ⟨k, hk, rfl, hA, hB⟩ := hrel
      have HA := Lib.hid hA; have HB := Lib.hid hB; clear hA hB
      by_cases hlt : k < len
      · obtain ⟨b, off, c, ha, hc, hp⟩ := (HI.out.below HB.out).at HL.out hlt
        have HP := Lib.hid hp; clear hp
        subst ha
        obtain ⟨c0, c1, c2⟩ := hc
        have HB2 := Lib.hid (HB.out.alloc HB.out.size (.cells #[.int .i64 c.num, .int .i64 c.frm, .int .i64 c.to] 32))
        obtain ⟨x0, x1, x2⟩ := Term.boxed wr c 32
        have HT := Lib.hid (implIsTerm_any c (wr.alloc (.cells #[.int .i64 c.num, .int .i64 c.frm, .int .i64 c.to] 32)))
        cases hv : okT c
        · have HN := Lib.hid (areT_bad HP.out hv)
          rw [hv] at HT; clear hv
          go_wp2_with fail
          refine HT.out.mono ?_; rintro e w3 ⟨rfl, hB⟩
          have HB3 := Lib.hid (HB2.out.trans (hB.mono HB2.out.size)); clear hB c0 c1 c2 x0 x1 x2
          go_wp2_with fail
          go_ret
          exact ⟨ret_bool' HN.out.symm, HB3.out⟩
        · have HN := Lib.hid (all_next HA.out HP.out hv)
          rw [hv] at HT; clear hv
          go_wp2_with fail
          refine HT.out.mono ?_; rintro e w3 ⟨rfl, hB⟩
          have HB3 := Lib.hid (HB2.out.trans (hB.mono HB2.out.size)); clear hB c0 c1 c2 x0 x1 x2
          go_wp2_with fail
          go_roundw
          case rel => exact ⟨k + 1, by omega, by go_num, HN.out, HB3.out⟩
          case measure => simp [intOf]; omega
      · have HX := Lib.hid (implAreApart_any a len cap ts wr HL.out h20' (HI.out.below HB.out))
        rw [← areT_apart (ts := ts) (by rw [HL.out]; exact h20') (fun t ht => by
          obtain ⟨i, hi, rfl⟩ := List.getElem_of_mem ht
          exact HA.out i _ (by rw [HL.out] at hi; omega) (List.getElem?_eq_getElem hi))] at HX
        go_wp2_with fail
        refine HX.out.mono ?_; rintro e w3 ⟨rfl, hB⟩
        have HB3 := Lib.hid (HB.out.trans (hB.mono HB.out.size)); clear hB
        go_wp2_with fail
        go_ret
        exact ⟨rfl, HB3.out⟩

/-- the first error -/
theorem codeT_1 {ts : List Term} {n d : Int} (h : areT ts = false) : codeT ts n d = 1 := by unfold codeT; rw [if_neg (by rw [h]; decide)]
theorem codeT_0 {ts : List Term} {n d : Int} (h : areT ts = true) (h1 : inR n 1 1000000 = true) (h2 : isDay d = true) : codeT ts n d = 0 := by unfold codeT; rw [if_pos h, if_pos ⟨h1, h2⟩]
theorem codeT_2 {ts : List Term} {n d : Int} (h : areT ts = true) (h1 : ¬ (inR n 1 1000000 = true ∧ isDay d = true)) : codeT ts n d = 2 := by unfold codeT; rw [if_pos h, if_neg h1]
set_option maxRecDepth 100000 in
set_option maxHeartbeats 1000000 in
theorem implErr7_any (a : Option Addr) (len cap : Nat) (ts : List Term) (n d : Int) (ds : List Int) (da : Option Addr) (dl dc : Nat) (w : World) (hl : ts.length = len) (hm : len ≤ maxLen) (h : Term.ListAt w a ts) (hdl : ds.length = dl) (hd2 : dl ≤ 2) (hd : IntsAt w da ds) (hdd : ds.all isDay = isDay d) :
    Calls Try.prog 49 #[.slice a len cap, .int .i64 n, .slice da dl dc] w fun e w' => e = .returned (.int .i64 (codeT ts n d)) ∧ Below w.heap.size w w' := by
  have HT := Lib.hid (implAreTerms_any a len cap ts w hl hm h)
  have H1 := Lib.hid (fun W => implPersNum_any n W)
  have H2 := Lib.hid (fun (W : World) (hB : Below w.heap.size w W) => implAreDays_any da dl dc ds W hdl hd2 (hd.below hB))
  rw [hdd] at H2
  clear h hl hd hdl
  cases hb1 : areT ts
  · have HN := Lib.hid (codeT_1 (n := n) (d := d) hb1)
    rw [hb1] at HT; clear hb1
    go_enter Try.func49, Try.ntmps49
    go_wp2_with fail
    refine HT.out.mono ?_; rintro e w1 ⟨rfl, hB⟩
    have HB := Lib.hid hB; clear hB
    go_wp2_with fail
    go_ret
    exact ⟨ret_i64 HN.out.symm, HB.out⟩
  · cases hb2 : inR n 1 1000000
    · have HN := Lib.hid (codeT_2 (n := n) (d := d) hb1 (fun h => by rw [hb2] at h; cases h.1))
      rw [hb1] at HT; rw [hb2] at H1; clear hb1 hb2
      go_enter Try.func49, Try.ntmps49
      go_wp2_with fail
      refine HT.out.mono ?_; rintro e w1 ⟨rfl, hB⟩
      have HB := Lib.hid hB; clear hB
      go_wp2_with fail
      refine (H1.out _).mono ?_; rintro e w2 ⟨rfl, rfl⟩
      go_wp2_with fail
      go_ret
      exact ⟨ret_i64 HN.out.symm, HB.out⟩
    · cases hb3 : isDay d
      · have HN := Lib.hid (codeT_2 (n := n) (d := d) hb1 (fun h => by rw [hb3] at h; cases h.2))
        rw [hb1] at HT; rw [hb2] at H1; rw [hb3] at H2; clear hb1 hb2 hb3
        go_enter Try.func49, Try.ntmps49
        go_wp2_with fail
        refine HT.out.mono ?_; rintro e w1 ⟨rfl, hB⟩
        have HB := Lib.hid hB; clear hB
        go_wp2_with fail
        refine (H1.out _).mono ?_; rintro e w2 ⟨rfl, rfl⟩
        go_wp2_with fail
        refine (H2.out _ HB.out).mono ?_; rintro e w2 ⟨rfl, rfl⟩
        go_wp2_with fail
        go_ret
        exact ⟨ret_i64 HN.out.symm, HB.out⟩
      · have HN := Lib.hid (codeT_0 (n := n) (d := d) hb1 hb2 hb3)
        rw [hb1] at HT; rw [hb2] at H1; rw [hb3] at H2; clear hb1 hb2 hb3
        go_enter Try.func49, Try.ntmps49
        go_wp2_with fail
        refine HT.out.mono ?_; rintro e w1 ⟨rfl, hB⟩
        have HB := Lib.hid hB; clear hB
        go_wp2_with fail
        refine (H1.out _).mono ?_; rintro e w2 ⟨rfl, rfl⟩
        go_wp2_with fail
        refine (H2.out _ HB.out).mono ?_; rintro e w2 ⟨rfl, rfl⟩
        go_wp2_with fail
        go_ret
        exact ⟨ret_i64 HN.out.symm, HB.out⟩

end Go.Proofs.Ytblbmmajobefiaa
