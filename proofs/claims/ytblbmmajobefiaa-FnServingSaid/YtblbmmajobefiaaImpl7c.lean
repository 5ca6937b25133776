/- Contracts of the program's chapter 7: numbers, who serves, who has served for too long, the busiest day, a further term. (written by impl7.py) -/
import Derived.Test.YtblbmmajobefiaaChecked
import Derived.Test.YtblbmmajobefiaaBase
import Derived.Test.YtblbmmajobefiaaInfo
import Derived.Test.YtblbmmajobefiaaTermA
import Derived.Test.YtblbmmajobefiaaTermB
import Derived.Test.YtblbmmajobefiaaTermC
import Derived.Test.YtblbmmajobefiaaTermD
import Derived.Test.YtblbmmajobefiaaPure70
import Derived.Test.YtblbmmajobefiaaPure71
import Derived.Test.YtblbmmajobefiaaPure72
import Derived.Test.YtblbmmajobefiaaAreDays
import Derived.Test.YtblbmmajobefiaaPersNum
import Derived.Test.YtblbmmajobefiaaWithin
import Derived.Test.YtblbmmajobefiaaSort7
import Derived.Test.YtblbmmajobefiaaImpl7a
import Derived.Test.YtblbmmajobefiaaImpl7b
import Derived.Test.YtblbmmajobefiaaSpec7
import Derived.Test.YtblbmmajobefiaaSpec7b
import Derived.Test.YtblbmmajobefiaaIntL
import Derived.Test.YtblbmmajobefiaaBuildI
import Derived.Test.YtblbmmajobefiaaIns7
import Derived.Test.YtblbmmajobefiaaServ7
import Derived.Test.YtblbmmajobefiaaBusy7
import Derived.Test.YtblbmmajobefiaaLay7
import Derived.Test.YtblbmmajobefiaaFacts
import Derived.Test.YtblbmmajobefiaaFacts2
import Derived.Test.YtblbmmajobefiaaStepApp
import Derived.Test.YtblbmmajobefiaaAdd7
import Derived.WalkKit
import Derived.WalkSpells
import Derived.WalkLawsBesides
import Derived.Lib.Hide
import Derived.Lib.QuietBelow
import Derived.IntWalk
import Derived.Deep.QuietTactic
import Derived.BigQuiet
import Derived.BigRegion
import Derived.OwnWalk
import Derived.RegionTactic
import Derived.Outline
namespace Go.Proofs.Ytblbmmajobefiaa
open Go.RowKit Go.Sort Pure1 Pure2 Pure20 Pure40

/-- numbers of our own are returned; nothing that was there has turned -/
def SaysIB (zs : List Int) (w : World) (e : Ending) (w' : World) : Prop := ∃ v, e = .returned v ∧ BuildI w.heap.size w' v zs ∧ Below w.heap.size w w'
theorem compact_small {zs : List Int} (h : zs.length < 2) : Go.Lib.compact zs = zs := by
  refine Go.Lib.compact_all zs fun j hj => ?_
  exact Go.Lib.keeps_lt_one _ j (by omega)
set_option maxHeartbeats 1000000 in
theorem implCompact_any (B : Nat) (v : Value) (zs : List Int) (w : World) (hB : B ≤ w.heap.size) (ho : BuildI B w v zs) (hm : zs.length ≤ 1000) :
    Calls Try.prog 81 #[v] w fun e w' => ∃ v', e = .returned v' ∧ BuildI B w' v' (Go.Lib.compact zs) ∧ Below B w w' := by
  by_cases h2 : zs.length < 2
  · have HE := Lib.hid (compact_small h2)
    have HO := Lib.hid ho
    obtain ⟨a, cap, rfl, _⟩ := ho.slice
    have z1 : decide ((zs.length : Int) < 2) = true := decide_eq_true (by omega)
    generalize Go.Lib.compact zs = ys at HE ⊢
    clear ho
    go_enter Try.func81, Try.ntmps81
    go_wp2_with fail
    go_ret
    rw [HE.out]
    exact ⟨_, rfl, HO.out, Below.refl _ _⟩
  · have hv : v ≠ .slice none 0 0 := by
      rintro rfl
      rcases ho.parts with ⟨_, rfl⟩ | ⟨⟨g, cap, e⟩, _⟩
      · simp at h2
      · cases e
    obtain ⟨g, cap, rfl, hg, hlt, hn, hc, hl, hH⟩ := Go.Lib.holds_of_ownsRow (enc := Value.int .i64) ho hv
    have hz : (zs.toArray).size = zs.length := by simp
    have hc2 := Try.slices_Compact (Value.int .i64) (fun _ => rfl) (EqlAt.intD _ _ .i64) (NeqAt.intD _ _ .i64) 0 Try.zeroValue2 g 0 cap zs.toArray w hH (by rw [hz]; omega) (by rw [hz]; exact hn)
    rw [hz] at hc2
    refine hc2.mono ?_
    rintro e w' ⟨rfl, q, rfl⟩
    have hlc : (Go.Lib.compactUpTo zs.toArray zs.length).length ≤ zs.length := by
      unfold Go.Lib.compactUpTo
      rw [List.length_map]
      have := List.length_filter_le (Go.Lib.keeps zs.toArray) (List.range zs.length)
      rw [List.length_range] at this; exact this
    have ho' := Go.Lib.ownsRow_putRow (enc := Value.int .i64) (q := q) (k := (Go.Lib.compactUpTo zs.toArray zs.length).length) (ys := Go.Lib.compactUpTo zs.toArray zs.length ++ List.replicate (zs.length - (Go.Lib.compactUpTo zs.toArray zs.length).length) 0) ho (by simp; omega) hlc
    rw [List.take_append_of_le_length (Nat.le_refl _), List.take_length] at ho'
    exact ⟨_, rfl, ho', Go.Lib.below_putRow (Below.refl _ _) hg⟩

theorem take_map_num {os : List Term} {k : Nat} {c : Term} (hc : os[k]? = some c) : (os.take (k + 1)).map (·.num) = (os.take k).map (·.num) ++ [c.num] := by
  have hk := lt_of_get hc
  rw [List.take_succ_eq_append_getElem hk, List.map_append, Option.some.inj ((List.getElem?_eq_getElem hk).symm.trans hc)]
  rfl
set_option maxRecDepth 100000 in
set_option maxHeartbeats 4000000 in
theorem implNumbersIn_any (a : Option Addr) (len cap : Nat) (ts : List Term) (w : World) (hl : ts.length = len) (hm : len ≤ 20) (h : Term.ListAt w a ts) :
    Calls Try.prog 67 #[.slice a len cap] w (SaysIB (numsOf ts) w) := by
  have HC := Lib.hid (implByPerson_any a len cap ts w hl hm h)
  have HL := Lib.hid (show (byPersL ts).length = len by rw [byPersL_length, hl])
  have HE := Lib.hid (show numsOf ts = Go.Lib.compact ((byPersL ts).map (·.num)) from rfl)
  generalize byPersL ts = os at HC HL HE
  generalize numsOf ts = r at HE ⊢
  clear h hl
  go_enter Try.func67, Try.ntmps67
  go_wp2_with fail
  refine HC.out.mono ?_; rintro e w1 ⟨v, rfl, ho, hB⟩
  obtain ⟨a1, cap1, rfl, hr⟩ := ho.slice
  have HI := Lib.hid hr; have HB := Lib.hid hB; clear ho hB hr
  rw [HL.out]
  have HO0 := Lib.hid (BuildI.nil w1.heap.size w1)
  go_wp2_with fail
  go_loopw [3, 5, 9] (fun v _ i wr => ∃ k : Nat, k ≤ len ∧ i = .int .i64 k ∧ BuildI w1.heap.size wr v ((os.take k).map (·.num)) ∧ Below w1.heap.size w1 wr) (fun _ _ i _ => len - (intOf i).toNat)
  case atStart => exact ⟨0, Nat.zero_le _, rfl, HO0.out, Below.refl _ _⟩
  case round =>
    obtain ⟨k, hk, rfl, ho, hBr⟩ := hrel
    have HO := Lib.hid ho; have HBr := Lib.hid hBr; clear ho hBr
    by_cases hlt : k < len
    · obtain ⟨b, off, c, ha, hc, hp⟩ := (HI.out.below HBr.out).at HL.out hlt
      have HN := Lib.hid (take_map_num hp); clear hp
      subst ha
      obtain ⟨c0, c1, c2⟩ := hc
      have HZ := Lib.hid (show ((os.take k).map (·.num)).length ≤ 20 by rw [List.length_map, List.length_take]; omega)
      have HO2 := Lib.hid ((HO.out.alloc (.cells #[.int .i64 c.num, .int .i64 c.frm, .int .i64 c.to] 32)).alloc (.cells #[.int .i64 c.num] 2))
      have HB2 := Lib.hid ((HBr.out.alloc HBr.out.size (.cells #[.int .i64 c.num, .int .i64 c.frm, .int .i64 c.to] 32)).alloc (HBr.out.alloc HBr.out.size (.cells #[.int .i64 c.num, .int .i64 c.frm, .int .i64 c.to] 32)).size (.cells #[.int .i64 c.num] 2))
      obtain ⟨x0, x1, x2⟩ := Term.boxed wr c 32
      generalize (os.take k).map (·.num) = zs at HO HN HZ HO2
      go_wp2_with (at_builtin; refine wpList_int_append rfl _ _ rfl _ _ rfl HO2.out _ c.num rfl (BuildI.lit2 _ _ _ _) ?c2 ?c3 ?_)
      case c2 => have := HZ.out; omega
      case c3 => exact HB2.out.size
      intro v' w5 ho5 hg5
      have HO5 := Lib.hid ho5
      have HB5 := Lib.hid (HO2.out.grew HB2.out (Nat.le_refl _) HB2.out.size hg5)
      clear ho5 hg5 c0 c1 c2 x0 x1 x2
      go_wp2_with fail
      go_roundw
      case rel => exact ⟨k + 1, by omega, by go_num, by rw [HN.out]; exact HO5.out, HB5.out⟩
      case measure => simp [intOf]; omega
    · have HK := Lib.hid (show r = Go.Lib.compact ((os.take k).map (·.num)) by rw [HE.out, List.take_of_length_le (by rw [HL.out]; omega)])
      have HZ := Lib.hid (show ((os.take k).map (·.num)).length ≤ 20 by rw [List.length_map, List.length_take]; omega)
      have HCC := Lib.hid (implCompact_any w1.heap.size u3 _ wr HBr.out.size HO.out (by have := HZ.out; omega))
      rw [← HK.out] at HCC
      go_wp2_with fail
      refine HCC.out.mono ?_; rintro e w5 ⟨v5, rfl, ho, hB⟩
      have HO5 := Lib.hid (ho.base HB.out.size); have HB5 := Lib.hid (HB.out.trans ((HBr.out.trans hB).mono HB.out.size)); clear ho hB
      go_wp2_with fail
      go_ret
      exact ⟨_, rfl, HO5.out, HB5.out⟩

theorem saysIL_of {w w' : World} {v : Value} {zs : List Int} {c : Int} {B : Nat} (hB : w.heap.size ≤ B) (ho : BuildI B w' v zs) (hb : Below w.heap.size w w') : SaysIL zs c w (.returned (.tuple #[v, .int .i64 c])) w' := by
  refine ⟨v, rfl, ?_, ?_, hb⟩
  · obtain ⟨a, cap, e, _⟩ := ho.slice; exact ⟨a, cap, e⟩
  · rcases (ho.base hB).parts with ⟨_, e⟩ | h
    · exact .inl e
    · exact .inr h
theorem codeT_cases1 (ts : List Term) (d : Int) : (areT ts = false ∧ codeT ts 1 d = 1) ∨ (areT ts = true ∧ isDay d = false ∧ codeT ts 1 d = 2) ∨ (areT ts = true ∧ isDay d = true ∧ codeT ts 1 d = 0) := by
  cases h : areT ts
  · exact .inl ⟨rfl, codeT_1 h⟩
  · cases h2 : isDay d
    · exact .inr (.inl ⟨rfl, rfl, codeT_2 h (fun hh => by rw [h2] at hh; cases hh.2)⟩)
    · exact .inr (.inr ⟨rfl, rfl, codeT_0 h rfl h2⟩)
set_option maxRecDepth 100000 in
set_option maxHeartbeats 2000000 in
theorem implServingOnP_any (a : Option Addr) (len cap : Nat) (ts : List Term) (d : Int) (w : World) (hl : ts.length = len) (hm : len ≤ maxLen) (h : Term.ListAt w a ts) :
    Calls Try.prog 33 #[.slice a len cap, .int .i64 d] w (SaysIL (servR ts d).1 (servR ts d).2 w) := by
  have HT := Lib.hid (implAreTerms_any a len cap ts w hl hm h)
  have H2 := Lib.hid (fun W => implAreDays_any (some ⟨W.heap.size, 0, none⟩) 1 1 [d] (W.alloc (.cells #[.int .i64 d] 2)) rfl (by omega) (one_day W d))
  rw [all_one] at H2
  have HI := Lib.hid h; have HL := Lib.hid hl; clear h hl
  rcases codeT_cases1 ts d with ⟨hA, hc⟩ | ⟨hA, hd, hc⟩ | ⟨hA, hd, hc⟩
  · have HF := Lib.hid (show servR ts d = ([], 1) by unfold servR; rw [hc]; rfl)
    generalize servR ts d = v at HF ⊢
    rw [hA] at HT
    clear hA hc
    go_enter Try.func33, Try.ntmps33
    go_wp2_with fail
    refine HT.out.mono ?_; rintro e w1 ⟨rfl, hB⟩
    have HB := Lib.hid hB; clear hB
    go_wp2_with fail
    go_ret2
    rw [HF.out]
    exact ⟨_, rfl, ⟨_, _, rfl⟩, .inl rfl, HB.out⟩
  · have HF := Lib.hid (show servR ts d = ([], 2) by unfold servR; rw [hc]; rfl)
    generalize servR ts d = v at HF ⊢
    rw [hA] at HT; rw [hd] at H2
    clear hA hc hd
    go_enter Try.func33, Try.ntmps33
    go_wp2_with fail
    refine HT.out.mono ?_; rintro e w1 ⟨rfl, hB⟩
    have HB := Lib.hid hB; clear hB
    go_wp2_with fail
    refine (H2.out w1).mono ?_; rintro e w2 ⟨rfl, hw⟩
    have HB2 := Lib.hid (show Below w.heap.size w w2 by rw [← hw]; exact HB.out.alloc HB.out.size _); clear hw
    go_wp2_with fail
    go_ret2
    rw [HF.out]
    exact ⟨_, rfl, ⟨_, _, rfl⟩, .inl rfl, HB2.out⟩
  · have HF := Lib.hid (show servR ts d = (numsOf (servesL ts d), 0) by unfold servR; rw [hc, numsOf_serv]; rfl)
    have hm20 : len ≤ 20 := by rw [← HL.out]; exact areT_len hA
    generalize servR ts d = v at HF ⊢
    rw [hA] at HT; rw [hd] at H2
    clear hA hc hd
    go_enter Try.func33, Try.ntmps33
    go_wp2_with fail
    refine HT.out.mono ?_; rintro e w1 ⟨rfl, hB⟩
    have HB := Lib.hid hB; clear hB
    go_wp2_with fail
    refine (H2.out w1).mono ?_; rintro e w2 ⟨rfl, hw⟩
    have HB2 := Lib.hid (show Below w.heap.size w w2 by rw [← hw]; exact HB.out.alloc HB.out.size _); clear hw
    go_wp2_with fail
    refine (implServingOn_any a len cap ts d w2 HL.out hm20 (HI.out.below HB2.out)).mono ?_; rintro e w3 ⟨v3, rfl, ho, hB⟩
    obtain ⟨a1, cap1, rfl, hr⟩ := ho.slice
    have hlo : (servesL ts d).length ≤ 20 := by have := filter_len (serves d) ts; have := HL.out; unfold servesL; omega
    have HC3 := Lib.hid (implNumbersIn_any a1 (servesL ts d).length cap1 (servesL ts d) w3 rfl hlo hr)
    have HB3 := Lib.hid (HB2.out.trans (hB.mono HB2.out.size)); clear ho hB hr
    generalize numsOf (servesL ts d) = ns at HC3 HF
    go_wp2_with fail
    refine HC3.out.mono ?_; rintro e w4 ⟨v4, rfl, ho, hB⟩
    have HO4 := Lib.hid ho; have HB4 := Lib.hid (HB3.out.trans (hB.mono HB3.out.size)); clear ho hB
    go_wp2_with fail
    go_ret2
    rw [HF.out]
    exact saysIL_of HB3.out.size HO4.out HB4.out

set_option maxRecDepth 100000 in
set_option maxHeartbeats 4000000 in
theorem implOverServed_any (a : Option Addr) (len cap : Nat) (ts : List Term) (w : World) (hl : ts.length = len) (hm : len ≤ maxLen) (h : Term.ListAt w a ts) :
    Calls Try.prog 35 #[.slice a len cap] w (SaysIL (overR ts).1 (overR ts).2 w) := by
  have HT := Lib.hid (implAreTerms_any a len cap ts w hl hm h)
  have HI := Lib.hid h; have HL := Lib.hid hl; clear h hl
  rcases codeT_cases1 ts 0 with ⟨hA, hc⟩ | ⟨hA, hd, hc⟩ | ⟨hA, hd, hc⟩
  · have HF := Lib.hid (show overR ts = ([], 1) by unfold overR; rw [hc]; rfl)
    generalize overR ts = v at HF ⊢
    rw [hA] at HT
    clear hA hc
    go_enter Try.func35, Try.ntmps35
    go_wp2_with fail
    refine HT.out.mono ?_; rintro e w1 ⟨rfl, hB⟩
    have HB := Lib.hid hB; clear hB
    go_wp2_with fail
    go_ret2
    rw [HF.out]
    exact ⟨_, rfl, ⟨_, _, rfl⟩, .inl rfl, HB.out⟩
  · cases hd
  · have HF := Lib.hid (show overR ts = ((numsOf ts).filter (fun n => decide (60 < daysL ts n)), 0) by unfold overR; rw [hc, numsOf_over]; rfl)
    have hm20 : len ≤ 20 := by rw [← HL.out]; exact areT_len hA
    have HA := Lib.hid hA
    have hlo : (numsOf ts).length ≤ 20 := by
      have h1 : (numsOf ts).length ≤ ((byPersL ts).map (·.num)).length := by
        unfold numsOf Go.Lib.compact Go.Lib.compactUpTo
        rw [List.length_map]
        have := List.length_filter_le (Go.Lib.keeps ((byPersL ts).map (·.num)).toArray) (List.range ((byPersL ts).map (·.num)).length)
        rw [List.length_range] at this; exact this
      rw [List.length_map, byPersL_length] at h1
      have := HL.out; omega
    generalize overR ts = v at HF ⊢
    rw [hA] at HT
    clear hA hc hd
    go_enter Try.func35, Try.ntmps35
    go_wp2_with fail
    refine HT.out.mono ?_; rintro e w1 ⟨rfl, hB⟩
    have HB := Lib.hid hB; clear hB
    have HC := Lib.hid (implNumbersIn_any a len cap ts w1 HL.out hm20 (HI.out.below HB.out))
    generalize numsOf ts = ns at HC HF hlo
    go_wp2_with fail
    refine HC.out.mono ?_; rintro e w2 ⟨v2, rfl, ho, hB⟩
    obtain ⟨a2, cap2, rfl, hr⟩ := ho.slice
    have HNS := Lib.hid hr; have HB2 := Lib.hid (HB.out.trans (hB.mono HB.out.size)); clear ho hB hr
    obtain ⟨lo, hlo'⟩ : ∃ lo, ns.length = lo := ⟨_, rfl⟩
    have HLO := Lib.hid hlo'
    rw [hlo'] at hlo ⊢
    clear hlo'
    have HO0 := Lib.hid (BuildI.nil w2.heap.size w2)
    go_wp2_with fail
    go_loopw [4, 6, 13] (fun v _ i wr => ∃ k : Nat, k ≤ lo ∧ i = .int .i64 k ∧ BuildI w2.heap.size wr v ((ns.take k).filter (fun n => decide (60 < daysL ts n))) ∧ Below w2.heap.size w2 wr) (fun _ _ i _ => lo - (intOf i).toNat)
    case atStart => exact ⟨0, Nat.zero_le _, rfl, HO0.out, Below.refl _ _⟩
    case round =>
      obtain ⟨k, hk, rfl, ho, hBr⟩ := hrel
      have HO := Lib.hid ho; have HBr := Lib.hid hBr; clear ho hBr
      by_cases hlt : k < lo
      · obtain ⟨b, off, x, ha, hx, _, hp⟩ := (HNS.out.below HBr.out).at HLO.out hlt
        have HP := Lib.hid hp; clear hp
        subst ha
        have HD := Lib.hid (implServedDays_any a len cap ts x wr HL.out HA.out (HI.out.below (HB2.out.trans (HBr.out.mono HB2.out.size))))
        have HZ := Lib.hid (show ((ns.take k).filter (fun n => decide (60 < daysL ts n))).length ≤ 20 by have := List.length_filter_le (fun n => decide (60 < daysL ts n)) (ns.take k); rw [List.length_take] at this; omega)
        by_cases hv : 60 < daysL ts x
        · have HN := Lib.hid (take_filter_yes (p := fun n => decide (60 < daysL ts n)) HP.out (decide_eq_true hv))
          generalize (ns.take k).filter (fun n => decide (60 < daysL ts n)) = zs at HO HN HZ
          generalize daysL ts x = dd at HD hv
          go_wp2_with fail
          refine HD.out.mono ?_; rintro e w3 ⟨rfl, hB⟩
          have HO2 := Lib.hid ((HO.out.below hB).alloc (.cells #[.int .i64 x] 2))
          have hB3 := HBr.out.trans (hB.mono HBr.out.size)
          have HB3 := Lib.hid (hB3.alloc hB3.size (.cells #[.int .i64 x] 2)); clear hB hx hB3
          go_wp2_with (at_builtin; refine wpList_int_append rfl _ _ rfl _ _ rfl HO2.out _ x rfl (BuildI.lit1 _ _ _) ?c2 ?c3 ?_)
          case c2 => have := HZ.out; omega
          case c3 => exact HB3.out.size
          intro v' w5 ho5 hg5
          have HO5 := Lib.hid ho5
          have HB5 := Lib.hid (HO2.out.grew HB3.out (Nat.le_refl _) HB3.out.size hg5)
          clear ho5 hg5
          go_wp2_with fail
          go_roundw
          case rel => exact ⟨k + 1, by omega, by go_num, by rw [HN.out]; exact HO5.out, HB5.out⟩
          case measure => simp [intOf]; omega
        · have HN := Lib.hid (take_filter_no (p := fun n => decide (60 < daysL ts n)) HP.out (decide_eq_false hv))
          have hvb : decide (daysL ts x > 60) = false := decide_eq_false hv
          generalize daysL ts x = dd at HD hvb
          clear hv
          go_wp2_with fail
          refine HD.out.mono ?_; rintro e w3 ⟨rfl, hB⟩
          have HO2 := Lib.hid (HO.out.below hB)
          have HB3 := Lib.hid (HBr.out.trans (hB.mono HBr.out.size)); clear hB hx
          go_wp2_with fail
          go_roundw
          case rel => exact ⟨k + 1, by omega, by go_num, by rw [HN.out]; exact HO2.out, HB3.out⟩
          case measure => simp [intOf]; omega
      · have HK := Lib.hid (show ns.filter (fun n => decide (60 < daysL ts n)) = (ns.take k).filter (fun n => decide (60 < daysL ts n)) by rw [List.take_of_length_le (by rw [HLO.out]; omega)])
        go_wp2_with fail
        go_ret2
        rw [HF.out, HK.out]
        exact saysIL_of HB2.out.size HO.out (HB2.out.trans (HBr.out.mono HB2.out.size))

set_option maxRecDepth 100000 in
set_option maxHeartbeats 4000000 in
theorem implBusiest_any (a : Option Addr) (len cap : Nat) (ts : List Term) (w : World) (hl : ts.length = len) (hm : len ≤ maxLen) (h : Term.ListAt w a ts) :
    Calls Try.prog 30 #[.slice a len cap] w (SaysNN (busyR ts).1.1 (busyR ts).1.2 (busyR ts).2 w) := by
  have HT := Lib.hid (implAreTerms_any a len cap ts w hl hm h)
  have HI := Lib.hid h; have HL := Lib.hid hl; clear h hl
  rcases codeT_cases1 ts 0 with ⟨hA, hc⟩ | ⟨hA, hd, hc⟩ | ⟨hA, hd, hc⟩
  · have HF := Lib.hid (show busyR ts = ((0, 0), 1) by unfold busyR; rw [hc]; rfl)
    generalize busyR ts = v at HF ⊢
    rw [hA] at HT
    clear hA hc
    go_enter Try.func30, Try.ntmps30
    go_wp2_with fail
    refine HT.out.mono ?_; rintro e w1 ⟨rfl, hB⟩
    have HB := Lib.hid hB; clear hB
    go_wp2_with fail
    go_ret3
    exact ⟨ret_nnn (by rw [HF.out]) (by rw [HF.out]) (by rw [HF.out]), HB.out⟩
  · cases hd
  · have hm20 : len ≤ 20 := by rw [← HL.out]; exact areT_len hA
    have HA := Lib.hid hA
    by_cases h0 : len = 0
    · have HF := Lib.hid (show busyR ts = ((0, 0), 4) by unfold busyR; rw [hc, if_pos rfl, if_pos (by rw [HL.out, h0])])
      generalize busyR ts = v at HF ⊢
      rw [hA] at HT
      clear hA hc hd
      subst h0
      go_enter Try.func30, Try.ntmps30
      go_wp2_with fail
      refine HT.out.mono ?_; rintro e w1 ⟨rfl, hB⟩
      have HB := Lib.hid hB; clear hB
      go_wp2_with fail
      go_ret3
      exact ⟨ret_nnn (by rw [HF.out]) (by rw [HF.out]) (by rw [HF.out]), HB.out⟩
    · have HF := Lib.hid (show busyR ts = (busyL ts, 0) by unfold busyR; rw [hc, if_pos rfl, if_neg (by rw [HL.out]; exact h0)])
      have hb0 : ((len : Int) == 0) = false := beq_eq_false_iff_ne.2 (by omega)
      have HLD := Lib.hid (byDayL_length ts)
      have HT0 := Lib.hid (bestTo_zero ts)
      have HTT := Lib.hid (fun (k : Nat) (d m : Int) (c : Term) (h : BestTo ts k d m) => bestTo_take (c := c) HA.out h)
      have HTL := Lib.hid (fun (k : Nat) (d m : Int) (c : Term) (h : BestTo ts k d m) => bestTo_leave (c := c) HA.out h)
      have HTE := Lib.hid (fun (k : Nat) (d m : Int) (h : BestTo ts k d m) (hk : (byDayL ts).length ≤ k) => busyL_eq (bestTo_end HA.out h hk (by rw [HL.out]; omega)))
      have HSL := Lib.hid (fun d => servesL_len HA.out d)
      generalize busyR ts = v at HF ⊢
      generalize busyL ts = bl at HF HTE
      rw [hA] at HT
      clear hA hc hd
      go_enter Try.func30, Try.ntmps30
      go_wp2_with fail
      refine HT.out.mono ?_; rintro e w1 ⟨rfl, hB⟩
      have HB := Lib.hid hB; clear hB
      have HC := Lib.hid (implByDay_any a len cap ts w1 HL.out hm20 (HI.out.below HB.out))
      generalize BestTo ts = BT at HT0 HTT HTL HTE
      generalize byDayL ts = os at HC HLD HTT HTL HTE
      go_wp2_with fail
      refine HC.out.mono ?_; rintro e w2 ⟨v2, rfl, ho, hB⟩
      obtain ⟨a2, cap2, rfl, hr⟩ := ho.slice
      have HI2 := Lib.hid hr; have HB2 := Lib.hid (HB.out.trans (hB.mono HB.out.size)); clear ho hB hr
      rw [HLD.out, HL.out]
      have HLO := Lib.hid (show os.length = len by rw [HLD.out, HL.out])
      go_wp2_with fail
      go_loopw [5, 6, 8, 9, 19] (fun bd mo _ _ i wr => ∃ (k : Nat) (d m : Int), k ≤ len ∧ i = .int .i64 k ∧ bd = .int .i64 d ∧ mo = .int .i64 m ∧ BT k d m ∧ Below w2.heap.size w2 wr) (fun _ _ _ _ i _ => len - (intOf i).toNat)
      case atStart => exact ⟨0, 0, 0, Nat.zero_le _, rfl, rfl, rfl, HT0.out, Below.refl _ _⟩
      case round =>
        obtain ⟨k, d, m, hk, rfl, rfl, rfl, hR, hBr⟩ := hrel
        have HR := Lib.hid hR; have HBr := Lib.hid hBr; clear hR hBr
        by_cases hlt : k < len
        · obtain ⟨b, off, c, ha, hc, hp⟩ := (HI2.out.below HBr.out).at HLO.out hlt
          have HP := Lib.hid hp; clear hp
          subst ha
          obtain ⟨c0, c1, c2⟩ := hc
          have HB3 := Lib.hid (HBr.out.alloc HBr.out.size (.cells #[.int .i64 c.num, .int .i64 c.frm, .int .i64 c.to] 32))
          have HX := Lib.hid (Term.boxed wr c 32)
          obtain ⟨x0, x1, x2⟩ := HX.out
          have HS := Lib.hid (implServingOn_any a len cap ts c.frm (wr.alloc (.cells #[.int .i64 c.num, .int .i64 c.frm, .int .i64 c.to] 32)) HL.out hm20 (HI.out.below (HB2.out.trans (HB3.out.mono HB2.out.size))))
          have HTk := Lib.hid (HTT.out k d m c HR.out HP.out)
          have HLk := Lib.hid (HTL.out k d m c HR.out HP.out)
          have HSk := Lib.hid (HSL.out c.frm)
          generalize servL ts c.frm = zs at HTk HLk HSk
          generalize servesL ts c.frm = us at HS HSk
          go_wp2_with fail
          refine HS.out.mono ?_; rintro e w3 ⟨v3, rfl, ho, hB⟩
          obtain ⟨a3, cap3, rfl, hr⟩ := ho.slice
          have hx3 := HX.out.below hB
          have HB4 := Lib.hid (HB3.out.trans (hB.mono HB3.out.size)); clear ho hB hr c0 c1 c2 x0 x1 x2
          obtain ⟨x0, x1, x2⟩ := hx3
          rw [HSk.out]
          by_cases h1 : m < (zs.length : Int)
          · have HN := Lib.hid (HTk.out h1)
            have h1b : decide ((zs.length : Int) > m) = true := decide_eq_true h1
            clear h1
            generalize zs.length = zl at HN h1b ⊢
            go_wp2_with fail
            go_roundw
            case rel => exact ⟨k + 1, _, _, by omega, by go_num, rfl, rfl, HN.out, HB4.out⟩
            case measure => simp [intOf]; omega
          · have HN := Lib.hid (HLk.out (by omega))
            have h1b : decide ((zs.length : Int) > m) = false := decide_eq_false h1
            generalize zs.length = zl at h1b h1 ⊢
            go_wp2_with fail
            go_roundw
            case rel => exact ⟨k + 1, _, _, by omega, by go_num, rfl, rfl, HN.out, HB4.out⟩
            case measure => simp [intOf]; omega
        · have HG := Lib.hid (HTE.out k d m HR.out (by rw [HLO.out]; omega))
          go_wp2_with fail
          go_ret3
          exact ⟨ret_nnn (by rw [HF.out, HG.out]) (by rw [HF.out, HG.out]) (by rw [HF.out]), HB2.out.trans (HBr.out.mono HB2.out.size)⟩

end Go.Proofs.Ytblbmmajobefiaa
