/- Contracts of chapter 10's model: calls are moved, added, dropped. (written by spec10.py) -/
import Derived.Test.YtekhdggaelppkaaChecked
import Derived.Test.YtekhdggaelppkaaBase0
import Derived.Test.YtekhdggaelppkaaInfo
import Derived.Test.YtekhdggaelppkaaCallB
import Derived.Test.YtekhdggaelppkaaCallC
import Derived.Test.YtekhdggaelppkaaCallD
import Derived.Test.YtekhdggaelppkaaPure100
import Derived.Test.YtekhdggaelppkaaMarkI
import Derived.Test.YtekhdggaelppkaaFacts2
import Derived.Test.YtekhdggaelppkaaStepApp
import Derived.Test.YtekhdggaelppkaaDay1
import Derived.Test.YtekhdggaelppkaaDay2
import Derived.Test.YtekhdggaelppkaaDay3
import Derived.Test.YtekhdggaelppkaaSet10
import Derived.Test.YtekhdggaelppkaaCopy10
import Derived.Test.YtekhdggaelppkaaImpl10c
import Derived.Test.YtekhdggaelppkaaSpec100
import Derived.Test.YtekhdggaelppkaaSpec102
import Derived.WalkKit
import Derived.WalkSpells
import Derived.WalkLawsBesides
import Derived.Lib.Hide
import Derived.Lib.QuietBelow
import Derived.IntWalk
import Derived.Deep.QuietTactic
import Derived.BigQuiet
import Derived.BigRegion
import Derived.OwnWalk
import Derived.RegionTactic
import Derived.Outline
import Derived.Shelf.Abstract
import Derived.WalkMore
namespace Go.Proofs.Ytekhdggaelppkaa
open Go.Shelf Go.RowKit Go.Sort Pure1 Pure2 Pure20 Pure21 Pure40

set_option linter.unusedSimpArgs false
def AdG (B : Nat) (w1 w : World) : Prop := Below B w1 w ∧ w1.heap.size ≤ w.heap.size
theorem AdG.alloc {B : Nat} {w1 w : World} (h : AdG B w1 w) (o : Obj) (hB : B ≤ w1.heap.size) : AdG B w1 (w.alloc o) := ⟨h.1.alloc (Nat.le_trans hB h.2) o, by simp; exact Nat.le_succ_of_le h.2⟩
theorem AdG.grown {B : Nat} {w1 w w' : World} {v : Value} {ts : List Call} (h : AdG B w1 w) (ho : Call.L w B v ts) (hg : w.grownBy w' v.ownBlock) (hB : B ≤ w1.heap.size) : AdG B w1 w' :=
  ⟨h.1.grown hg (Nat.le_trans hB h.2) (fun k hk => (ho.2.lt k hk).1), Nat.le_trans h.2 hg.size⟩
def AdR (B : Nat) (i : Nat) (w w' : World) : Prop := if i = 10 ∨ i = 14 then Below B w w' else if i = 4 then ∃ g, (∃ cur T, w.heap[g]? = some (.cells cur T (0, 0)) ∧ cur.size = 0) ∧ w.grownBy w' (some g) else Below w.heap.size w w'
def AdF (B b0 cap k : Nat) (ts : List Call) (x : Call) : Nat → Value → World → Prop
  | 0, v, w => (∃ g, v = .slice (some ⟨g, 0, none⟩) 0 0) ∧ Call.L w B v []
  | 1, v, _ | 11, v, _ => v = .slice (some ⟨b0, 0, none⟩) ts.length cap
  | 2, v, _ | 12, v, _ => v = .int .i64 (k : Int)
  | 3, v, _ => ∃ c, v = .slice (some ⟨b0, 0, none⟩) k c
  | 4, v, w => Call.L w B v (ts.take k)
  | 5, v, _ => v = .int .i64 x.num
  | 6, v, _ => v = .int .i64 x.fst
  | 7, v, _ => v = .int .i64 x.day
  | 8, v, _ => v = .agg #[.int .i64 x.num, .int .i64 x.fst, .int .i64 x.day, .int .i64 0]
  | 9, v, w => Call.L w B v [⟨x.num, x.fst, x.day, 0⟩]
  | 10, v, w => Call.L w B v (ts.take k ++ [⟨x.num, x.fst, x.day, 0⟩])
  | 13, v, _ => ∃ c off, v = .slice (some ⟨b0, off, none⟩) (ts.length - k) c ∧ (off = k * 4 ∨ ts.drop k = [])
  | 14, v, w | 15, v, w => Call.L w B v (ts.take k ++ [⟨x.num, x.fst, x.day, 0⟩] ++ ts.drop k)
  | _, _, _ => True
def adGone : Nat → Option Nat
  | 0 | 3 => some 4
  | 4 | 9 => some 10
  | 10 | 13 => some 14
  | 14 => some 15
  | _ => none
def adKeep (i j : Nat) : Bool := !((i == 4 && (j == 0 || j == 4)) || (i == 10 || i == 14) && (j == 0 || j == 4 || j == 9 || j == 10 || j == 14 || j == 15))
theorem vals_take10 {w : World} {b0 : Nat} {ts : List Call} (h : Call.ListAt w (some ⟨b0, 0, none⟩) ts) {k : Nat} (hk : k ≤ ts.length) (j : Nat) (u : Value) (hu : (Call.vals (ts.take k))[j]? = some u) : w.cell? ((⟨b0, 0, none⟩ : Addr).add j) = some u := by
  rw [← (Call.vals_split hk).1, List.getElem?_take] at hu
  split at hu
  · exact vals_ofC2 h rfl j u hu
  · cases hu
theorem vals_drop10 {w : World} {b0 : Nat} {ts : List Call} (h : Call.ListAt w (some ⟨b0, 0, none⟩) ts) {k : Nat} (hk : k ≤ ts.length) (j : Nat) (u : Value) (hu : (Call.vals (ts.drop k))[j]? = some u) : w.cell? ((⟨b0, k * 4, none⟩ : Addr).add j) = some u := by
  rw [← (Call.vals_split hk).2, List.getElem?_drop] at hu
  have := vals_ofC2 h rfl (k * 4 + j) u hu
  rw [Addr.add_mid] at this ⊢
  rwa [Nat.zero_add] at this

set_option maxRecDepth 100000 in
set_option maxHeartbeats 4000000 in
theorem specMoveCall_any (ha : Option Addr) (hn hc : Nat) (hs : List Int) (b0 len cap : Nat) (ts : List Call) (n d : Int) (w : World) (hhl : hs.length = hn) (hhm : hn ≤ maxLen) (hh : IntsAt w ha hs) (hl : ts.length = len) (hm : len ≤ maxLen) (h : Call.ListAt w (some ⟨b0, 0, none⟩) ts) (hcap : len ≤ cap) :
    Calls Try.prog 16 #[.slice ha hn hc, .slice (some ⟨b0, 0, none⟩) len cap, .int .i64 n, .int .i64 d] w (SaysNewC (movR hs ts n d).1 (movR hs ts n d).2 w) := by
  have HC := Lib.hid (fun (W : World) (hB : Below w.heap.size w W) => specCode10_any ha hn hc hs (some ⟨b0, 0, none⟩) len cap ts n d W hhl hhm (hh.below hB) hl hm (h.below hB))
  have HX := Lib.hid (fun (W : World) (hB : Below w.heap.size w W) => specFind10_any (some ⟨b0, 0, none⟩) len cap ts n W hl hm (h.below hB))
  rcases findC_cases hs ts (isDay d) n with ⟨h0, ⟨hH, hA, hb⟩, c, hw⟩ | h0 | h0 | h0
  · obtain ⟨hc1, hn1⟩ := whoC_some hw
    have hk := lt_of_getC hc1
    have hok := areC_at hA hc1
    have hlen : len ≤ 20 := by rw [← hl]; exact areC_len hA
    have HM := Lib.hid (fun (W : World) (hB : Below w.heap.size w W) => specMay10_any c ha hn hc hs d W hok ((isDay_iff d).1 hb) hhl hhm (hh.below hB))
    have HVQ := Lib.hid (fun (W : World) (hB : Below w.heap.size w W) j u hu => vals_ofC2 (h.below hB) rfl j u hu)
    have HT := Lib.hid hc1; have HL := Lib.hid hl
    have hmv : 0 ≤ c.moves ∧ c.moves ≤ 2 := (okC_parts hok).2.2.2.1
    cases hmay : mayC hs c d
    · skip
      have HF := Lib.hid (show movR hs ts n d = _ from movR_no h0 hw hmay)
      obtain ⟨b, off, c', ha1, hcc, hp⟩ := h.at hl (show placeC ts n < len by omega)
      rw [hc1] at hp
      obtain rfl := Option.some.inj hp
      cases ha1
      have HXC := Lib.hid hcc
      have hkl : placeC ts n < len := by omega
      rw [h0] at HC
      rw [indexC_some hA hw] at HX
      generalize hv : movR hs ts n d = v at HF ⊢
      rw [hmay] at HM
      clear hmay HVQ HT HL hok hlen h0 hH hA hb hw hn1 hcc hp hv 
      generalize placeC ts n = k at *
      go_enter Try.func16, Try.ntmps16
      go_wp2_with fail
      refine (HC.out _ (Below.refl _ _)).mono ?_; rintro e w2 ⟨rfl, hB⟩
      have HB := Lib.hid hB; clear hB
      go_wp2_with fail
      refine (HX.out w2 HB.out).mono ?_; rintro e w2' ⟨rfl, hw'⟩
      obtain rfl : w2 = w2' := hw'.symm
      obtain ⟨c0, c1, c2, c3⟩ := HXC.out.below HB.out
      rw [Nat.zero_add] at c0 c1 c2 c3
      go_wp2_with fail
      refine (HM.out w2 HB.out).mono ?_; rintro e w3 ⟨rfl, hB⟩
      have HB3 := Lib.hid (HB.out.trans (hB.mono HB.out.size)); clear hB c0 c1 c2 c3
      go_wp2_with fail
      go_ret2
      rw [HF.out]
      exact SaysNewC.nil HB3.out
    · skip
      have HF := Lib.hid (show movR hs ts n d = _ from movR_yes h0 hw hmay)
      obtain ⟨b, off, c', ha1, hcc, hp⟩ := h.at hl (show placeC ts n < len by omega)
      rw [hc1] at hp
      obtain rfl := Option.some.inj hp
      cases ha1
      have HXC := Lib.hid hcc
      have hkl : placeC ts n < len := by omega
      rw [h0] at HC
      rw [indexC_some hA hw] at HX
      generalize hv : movR hs ts n d = v at HF ⊢
      rw [hmay] at HM
      clear hmay hok h0 hH hA hb hw hn1 hcc hp hv 
      generalize placeC ts n = k at *
      go_enter Try.func16, Try.ntmps16
      go_wp2_with fail
      refine (HC.out _ (Below.refl _ _)).mono ?_; rintro e w2 ⟨rfl, hB⟩
      have HB := Lib.hid hB; clear hB
      go_wp2_with fail
      refine (HX.out w2 HB.out).mono ?_; rintro e w2' ⟨rfl, hw'⟩
      obtain rfl : w2 = w2' := hw'.symm
      obtain ⟨c0, c1, c2, c3⟩ := HXC.out.below HB.out
      rw [Nat.zero_add] at c0 c1 c2 c3
      go_wp2_with fail
      refine (HM.out w2 HB.out).mono ?_; rintro e w3 ⟨rfl, hB⟩
      have HB3 := Lib.hid (HB.out.trans (hB.mono HB.out.size)); have HX3 := Lib.hid (HXC.out.below HB3.out); clear hB c0 c1 c2 c3
      have HE3 := Lib.hid (show Call.Bd (w3.alloc (.cells #[] 41)) w3.heap.size (.slice (some ⟨w3.heap.size, 0, none⟩) 0 0) [] from (Call.L_empty (Nat.le_refl _)).2)
      have HW3 := Lib.hid (Call.bx w3 (.cells #[] 41))
      have HQ3 := Lib.hid (HVQ.out _ (HB3.out.trans (HW3.out.mono HB3.out.size)))
      have hb0 : b0 < w3.heap.size := (Call.At.lt HX3.out)
      go_wp2_with (at_builtin; refine wpList_call_append rfl _ _ rfl _ [] rfl HE3.out ⟨b0, 0, none⟩ len cap ts HL.out rfl HQ3.out ?c1 ?c2 ?_)
      case c1 => have := HL.out; simp; omega
      case c2 => simp
      intro v4 w4 ho hg
      have ho : Call.Bd w4 w3.heap.size v4 ts := ho
      have hb4b := HE3.out.grew HW3.out (Nat.le_refl _) (by simp) hg
      have HB4 := Lib.hid (HB3.out.trans (hb4b.mono HB3.out.size))
      obtain ⟨b4, cap4, rfl, hown⟩ := ho.own10 (by omega)
      obtain ⟨m0, m1, m2, m3⟩ := Call.Own.cells hown HT.out
      obtain ⟨c0, c1, c2, c3⟩ := HX3.out.below hb4b
      rw [Nat.zero_add] at c0 c1 c2 c3
      have f2 := hown.frozen (by omega) (k * 4 + 2)
      have f3 := hown.frozen (by omega) (k * 4 + 3)
      have hb4 := hown.base10 (by omega)
      have hb4' : w.heap.size ≤ b4 := Nat.le_trans HB3.out.size hb4
      have e0 : (w4.setCell ⟨b4, k * 4 + 2, none⟩ (.int .i64 d)).cell? ⟨b0, k * 4 + 3, none⟩ = some (.int .i64 c.moves) := by rw [World.cell?_setCell_other _ _ _ _ (by intro e; injection e with e1; omega)]; exact c3
      have e3 : (w4.setCell ⟨b4, k * 4 + 2, none⟩ (.int .i64 d)).cell? ⟨b4, k * 4 + 3, none⟩ = some (.int .i64 c.moves) := by rw [World.cell?_setCell_other _ _ _ _ (by simp)]; exact m3
      have g3 : (w4.setCell ⟨b4, k * 4 + 2, none⟩ (.int .i64 d)).frozen? ⟨b4, k * 4 + 3, none⟩ = false := by rw [World.frozen?_setCell]; exact f3
      have q1 : IntKind.i64.wrap (c.moves + 1) = c.moves + 1 := IntWalk.i64_in _ (by omega)
      have HO := Lib.hid (Call.Own.mono (Call.Own.moved d hown HT.out) HB3.out.size)
      have HBF := Lib.hid ((HB4.out.setCell (p := ⟨b4, k * 4 + 2, none⟩) hb4' (.int .i64 d)).setCell (p := ⟨b4, k * 4 + 3, none⟩) hb4' (.int .i64 (c.moves + 1)))
      have hkt : k < ts.length := by rw [HL.out]; exact hkl
      clear hown ho hg hb4b
      go_wp2_with fail
      clear m0 m1 m2 m3 f2 f3 e3 g3 e0 c0 c1 c2 c3
      go_ret2
      rw [HF.out]
      exact ⟨_, cap4, by first | (rw [List.length_set]; rfl) | (rw [List.length_set, HL.out]; rfl), HO.out, HBF.out⟩
  · have HF := Lib.hid (movR_bad h0 (by omega))
    rw [h0] at HC
    generalize hv : movR hs ts n d = v at HF ⊢
    clear h0 hv
    go_enter Try.func16, Try.ntmps16
    go_wp2_with fail
    refine (HC.out _ (Below.refl _ _)).mono ?_; rintro e w2 ⟨rfl, hB⟩
    have HB := Lib.hid hB; clear hB
    go_wp2_with fail
    go_ret2
    rw [HF.out]
    exact SaysNewC.nil HB.out
  · have HF := Lib.hid (movR_bad h0 (by omega))
    rw [h0] at HC
    generalize hv : movR hs ts n d = v at HF ⊢
    clear h0 hv
    go_enter Try.func16, Try.ntmps16
    go_wp2_with fail
    refine (HC.out _ (Below.refl _ _)).mono ?_; rintro e w2 ⟨rfl, hB⟩
    have HB := Lib.hid hB; clear hB
    go_wp2_with fail
    go_ret2
    rw [HF.out]
    exact SaysNewC.nil HB.out
  · have HF := Lib.hid (movR_bad h0 (by omega))
    rw [h0] at HC
    generalize hv : movR hs ts n d = v at HF ⊢
    clear h0 hv
    go_enter Try.func16, Try.ntmps16
    go_wp2_with fail
    refine (HC.out _ (Below.refl _ _)).mono ?_; rintro e w2 ⟨rfl, hB⟩
    have HB := Lib.hid hB; clear hB
    go_wp2_with fail
    go_ret2
    rw [HF.out]
    exact SaysNewC.nil HB.out

set_option maxRecDepth 100000 in
set_option maxHeartbeats 8000000 in
theorem specAddCall_any (ha : Option Addr) (hn hc : Nat) (hs : List Int) (b0 len cap : Nat) (ts : List Call) (n d : Int) (w : World) (hhl : hs.length = hn) (hhm : hn ≤ maxLen) (hh : IntsAt w ha hs) (hl : ts.length = len) (hm : len ≤ maxLen) (h : Call.ListAt w (some ⟨b0, 0, none⟩) ts) (hcap : len ≤ cap) :
    Calls Try.prog 21 #[.slice ha hn hc, .slice (some ⟨b0, 0, none⟩) len cap, .int .i64 n, .int .i64 d] w (SaysNewC (addR10 hs ts n d).1 (addR10 hs ts n d).2 w) := by
  have HL := Lib.hid hl; have HI := Lib.hid h
  have HH := Lib.hid (fun (W : World) (hB : Below w.heap.size w W) => specAreHol_any ha hn hc hs W hhl hhm (hh.below hB))
  have HM := Lib.hid (fun (W : World) (hB : Below w.heap.size w W) => specAreC_any (some ⟨b0, 0, none⟩) len cap ts W hl hm (h.below hB))
  have HN := Lib.hid (fun W => specIn10 n 1 1000000 W)
  have HD := Lib.hid (fun W => specIs10 d W)
  cases hb1 : hol hs
  · have HF := Lib.hid (addR10_bad (n := n) (d := d) (codeC_h (ts := ts) hb1) (by omega))
    generalize addR10 hs ts n d = v at HF ⊢
    rw [hb1] at HH; clear hb1 h hh hm hhm hhl
    go_enter Try.func21, Try.ntmps21
    go_wp2_with fail
    refine (HH.out _ (Below.refl _ _)).mono ?_; rintro e w1 ⟨rfl, m1, hw⟩
    have HB1 := Lib.hid (show Below w.heap.size w w1 by rw [hw]; exact Go.below_drewN (Below.refl w.heap.size w) m1)
    clear hw
    go_wp2_with fail
    go_ret2
    rw [HF.out]
    exact SaysNewC.nil HB1.out
  cases hb2 : areC ts
  · have HF := Lib.hid (addR10_bad (n := n) (d := d) (codeC_c (hs := hs) hb2) (by omega))
    generalize addR10 hs ts n d = v at HF ⊢
    rw [hb1] at HH; rw [hb2] at HM; clear hb1 hb2 h hh hm hhm hhl
    go_enter Try.func21, Try.ntmps21
    go_wp2_with fail
    refine (HH.out _ (Below.refl _ _)).mono ?_; rintro e w1 ⟨rfl, m1, hw⟩
    have HB1 := Lib.hid (show Below w.heap.size w w1 by rw [hw]; exact Go.below_drewN (Below.refl w.heap.size w) m1)
    clear hw
    go_wp2_with fail
    refine (HM.out _ HB1.out).mono ?_; rintro e w2 ⟨rfl, hB⟩
    have HB2 := Lib.hid (HB1.out.trans (hB.mono HB1.out.size)); clear hB
    go_wp2_with fail
    go_ret2
    rw [HF.out]
    exact SaysNewC.nil HB2.out
  cases hb3 : inR n 1 1000000
  · have hc2 := codeC_2 hb1 hb2
    rw [show false = (inR n 1 1000000 && isDay d) by rw [hb3]; rfl] at hc2
    have HF := Lib.hid (addR10_bad hc2 (by omega))
    generalize addR10 hs ts n d = v at HF ⊢
    rw [hb1] at HH; rw [hb2] at HM; rw [hb3] at HN; clear hb1 hb2 hb3 hc2 h hh hm hhm hhl
    go_enter Try.func21, Try.ntmps21
    go_wp2_with fail
    refine (HH.out _ (Below.refl _ _)).mono ?_; rintro e w1 ⟨rfl, m1, hw⟩
    have HB1 := Lib.hid (show Below w.heap.size w w1 by rw [hw]; exact Go.below_drewN (Below.refl w.heap.size w) m1)
    clear hw
    go_wp2_with fail
    refine (HM.out _ HB1.out).mono ?_; rintro e w2 ⟨rfl, hB⟩
    have HB2 := Lib.hid (HB1.out.trans (hB.mono HB1.out.size)); clear hB
    go_wp2_with fail
    refine (HN.out _).mono ?_; rintro e w3 ⟨rfl, hw⟩
    obtain rfl : w2 = w3 := hw.symm
    go_wp2_with fail
    go_ret2
    rw [HF.out]
    exact SaysNewC.nil HB2.out
  cases hb4 : isDay d
  · have hc2 := codeC_2 hb1 hb2
    rw [show false = (inR n 1 1000000 && isDay d) by rw [hb3, hb4]; rfl] at hc2
    have HF := Lib.hid (addR10_bad hc2 (by omega))
    generalize addR10 hs ts n d = v at HF ⊢
    rw [hb1] at HH; rw [hb2] at HM; rw [hb3] at HN; rw [hb4] at HD; clear hb1 hb2 hb3 hb4 hc2 h hh hm hhm hhl
    go_enter Try.func21, Try.ntmps21
    go_wp2_with fail
    refine (HH.out _ (Below.refl _ _)).mono ?_; rintro e w1 ⟨rfl, m1, hw⟩
    have HB1 := Lib.hid (show Below w.heap.size w w1 by rw [hw]; exact Go.below_drewN (Below.refl w.heap.size w) m1)
    clear hw
    go_wp2_with fail
    refine (HM.out _ HB1.out).mono ?_; rintro e w2 ⟨rfl, hB⟩
    have HB2 := Lib.hid (HB1.out.trans (hB.mono HB1.out.size)); clear hB
    go_wp2_with fail
    refine (HN.out _).mono ?_; rintro e w3 ⟨rfl, hw⟩
    obtain rfl : w2 = w3 := hw.symm
    go_wp2_with fail
    refine (HD.out _).mono ?_; rintro e w3 ⟨rfl, hw⟩
    obtain rfl : w2 = w3 := hw.symm
    go_wp2_with fail
    go_ret2
    rw [HF.out]
    exact SaysNewC.nil HB2.out
  have hlen : ts.length ≤ 20 := areC_len hb2
  have hday := (isDay_iff d).1 hb4
  have HCO := Lib.hid (fun (W : World) (hB : Below w.heap.size w W) => specCourt_any d ha hn hc hs W hday.1 hhl hhm (hh.below hB))
  have hc0 := codeC_0 hb1 hb2
  rw [show true = (inR n 1 1000000 && isDay d) by rw [hb3, hb4]; rfl] at hc0
  have HFc := Lib.hid (addR10_court hc0)
  have HFa := Lib.hid (addR10_are hc0)
  have HFy := Lib.hid (addR10_yes hc0)
  generalize addR10 hs ts n d = v at HFc HFa HFy ⊢
  rw [hb1] at HH; rw [hb2] at HM; rw [hb3] at HN; rw [hb4] at HD
  clear hb1 hb2 hb3 hb4 hc0 h hh hm hhm hhl
  go_enter Try.func21, Try.ntmps21
  go_wp2_with fail
  refine (HH.out _ (Below.refl _ _)).mono ?_; rintro e w1 ⟨rfl, m1, hw⟩
  have HB1 := Lib.hid (show Below w.heap.size w w1 by rw [hw]; exact Go.below_drewN (Below.refl w.heap.size w) m1)
  clear hw
  go_wp2_with fail
  refine (HM.out _ HB1.out).mono ?_; rintro e w2 ⟨rfl, hB⟩
  have HB2 := Lib.hid (HB1.out.trans (hB.mono HB1.out.size)); clear hB
  go_wp2_with fail
  refine (HN.out _).mono ?_; rintro e w3 ⟨rfl, hw⟩
  obtain rfl : w2 = w3 := hw.symm
  go_wp2_with fail
  refine (HD.out _).mono ?_; rintro e w3 ⟨rfl, hw⟩
  obtain rfl : w2 = w3 := hw.symm
  go_wp2_with fail
  go_loopw [10] (fun i wr => ∃ k : Nat, k ≤ len ∧ i = .int .i64 k ∧ (∀ (i : Nat) s, i < k → ts[i]? = some s → s.num < n) ∧ Below w.heap.size w wr) (fun i _ => len - (intOf i).toNat)
  case atStart => exact ⟨0, Nat.zero_le _, rfl, atPlaceC_zero ts n, HB2.out⟩
  case round =>
    obtain ⟨k, hk, rfl, hlow, hB⟩ := hrel
    have HLO := Lib.hid hlow; have HB := Lib.hid hB; clear hlow hB
    by_cases hmore : ∃ c, ts[k]? = some c ∧ c.num < n
    · obtain ⟨c, hc, hcn⟩ := hmore
      have hkl : k < len := by rw [← HL.out]; exact lt_of_getC hc
      obtain ⟨b, off, c', ha, hcc, hp⟩ := (HI.out.below HB.out).at HL.out hkl
      rw [hc] at hp
      obtain rfl := Option.some.inj hp
      have HX := Lib.hid (belowC_next HLO.out hc hcn)
      cases ha
      obtain ⟨c0, c1, c2, c3⟩ := hcc
      rw [Nat.zero_add] at c0
      clear hp hc
      go_wp2_with fail
      go_roundw
      case rel => exact ⟨k + 1, by omega, by go_num, HX.out, HB.out⟩
      case measure => simp [intOf]; omega
    · have hstop : ∀ s, ts[k]? = some s → ¬ s.num < n := fun s hs h => hmore ⟨s, hs, h⟩
      have hpl := placeC_eq ⟨by rw [HL.out]; exact hk, HLO.out, hstop⟩
      have hins : insC ts ⟨n, d, d, 0⟩ = ts.take k ++ [⟨n, d, d, 0⟩] ++ ts.drop k := by unfold insC; rw [hpl]
      have hul : (insC ts ⟨n, d, d, 0⟩).length ≤ 1000 := by rw [insC_len]; omega
      have HIr := Lib.hid (HI.out.below HB.out)
      generalize insC ts ⟨n, d, d, 0⟩ = us at HFa HFy hins hul
      have HINS := Lib.hid hins.symm; have HUL := Lib.hid hul
      clear hins hul hpl hmore
      have hkl : k ≤ ts.length := by rw [HL.out]; exact hk
      by_cases hlt : k < len
      · obtain ⟨b, off, c, ha, hcc, hp⟩ := (HI.out.below HB.out).at HL.out hlt
        have hcn := hstop c hp
        have hcb : decide (c.num < n) = false := decide_eq_false hcn
        cases ha
        obtain ⟨c0, c1, c2, c3⟩ := hcc
        rw [Nat.zero_add] at c0
        clear hp hcn hstop
        go_wp2_with fail
        obtain rfl := HL.out
        clear c0 c1 c2 c3 hcb hlt
        refine wp_region_facts2 (sz := 68) [0, 1, 2, 3, 10] (by kernel_rfl) (by kernel_rfl) (by kernel_rfl) adGone adKeep (by kernel_rfl) (by kernel_rfl) (AdG wr.heap.size wr) (AdR wr.heap.size) (AdF wr.heap.size b0 cap k ts ⟨n, d, d, 0⟩) rfl ⟨Below.drew (Below.refl _ _), Nat.le_refl _⟩ ?_ ?_ ?_
        · intro i j u w2 w3 hi hj hkp hf hR
          have hi : i < 16 := hi; have hj : j < 16 := hj
          simp only [AdR] at hR
          by_cases h7 : i = 10 ∨ i = 14
          · rw [if_pos h7] at hR
            have hj2 : ¬ (j = 0 ∨ j = 4 ∨ j = 9 ∨ j = 10 ∨ j = 14 ∨ j = 15) := by
              intro h
              have : adKeep i j = false := by rcases h7 with rfl | rfl <;> rcases h with rfl | rfl | rfl | rfl | rfl | rfl <;> rfl
              rw [this] at hkp; cases hkp
            unfold AdF at hf ⊢
            split at hf <;> first | exact hf | (exfalso; omega)
          · rw [if_neg h7] at hR
            by_cases h4 : i = 4
            · rw [if_pos h4] at hR
              subst h4
              have hj2 : ¬ (j = 0 ∨ j = 4) := by
                rintro (rfl | rfl) <;> cases hkp
              obtain ⟨g0, he, hg⟩ := hR
              unfold AdF at hf ⊢
              split at hf <;> first | exact hf | (exfalso; omega) | exact hf.other (by simp) he hg
            · rw [if_neg h4] at hR
              unfold AdF at hf ⊢
              split at hf <;> first | exact hf | exact hf.below hR | exact ⟨hf.1, hf.2.below hR⟩ | trivial
        · intro i o ho
          have hbw : ∀ W, AdG wr.heap.size wr W → wr.heap.size ≤ W.heap.size := fun W h => h.2
          have hls : ∀ W, AdG wr.heap.size wr W → Call.ListAt W (some ⟨b0, 0, none⟩) ts := fun W h => HIr.out.below h.1
          match i, ho with
          | 0, ho =>
            cases ho
            intro ev w' hc hfn hb hG hd
            refine stepTo_gen fun K' hK => ?_
            simp [go_sem, stepTo, hc, hfn]
            exact hK _ _ ⟨hG.alloc _ (Nat.le_refl _), Call.bx _ _, (fun h => by cases h), ⟨_, rfl⟩, ⟨_, _, rfl⟩, World.ownsRow_lit w' #[] 0 (hbw w' hG) (by decide) rfl⟩
          | 1, ho | 11, ho =>
            cases ho
            intro ev w' hc hfn hb hG hd
            have h0 : ev (.tmp 1) = .slice (some ⟨b0, 0, none⟩) ts.length cap := hb 1 (by simp)
            refine stepTo_gen fun K' hK => ?_
            simp [go_sem, stepTo, hc, hfn, h0]
            exact hK _ _ ⟨hG, Below.refl _ _, (fun h => by cases h), rfl⟩
          | 2, ho | 12, ho =>
            cases ho
            intro ev w' hc hfn hb hG hd
            have h0 : ev (.tmp 10) = .int .i64 (k : Int) := hb 10 (by simp)
            refine stepTo_gen fun K' hK => ?_
            simp [go_sem, stepTo, hc, hfn, h0]
            exact hK _ _ ⟨hG, Below.refl _ _, (fun h => by cases h), rfl⟩
          | 3, ho =>
            cases ho
            intro ev w' hc hfn hb hG hd
            have h1 : ev (.tmp 44) = .slice (some ⟨b0, 0, none⟩) ts.length cap := hd { on := 1, ground := .data } (by simp) rfl rfl _ rfl
            have h2 : ev (.tmp 45) = .int .i64 (k : Int) := hd { on := 2, ground := .data } (by simp) rfl rfl _ rfl
            have hkc : k ≤ cap := by omega
            refine stepTo_gen fun K' hK => ?_
            simp [go_sem, stepTo, hc, hfn, h1, h2, hk, hkc]
            exact hK _ _ ⟨hG, Below.refl _ _, (fun h => by cases h), _, rfl⟩
          | 4, ho =>
            cases ho
            intro ev w' hc hfn hb hG hd
            obtain ⟨⟨g0, e0⟩, h1⟩ : (∃ g0, ev (.tmp 43) = .slice (some ⟨g0, 0, none⟩) 0 0) ∧ Call.L w' wr.heap.size (ev (.tmp 43)) [] := hd { on := 0, ground := .data } (by simp) rfl rfl _ rfl
            obtain ⟨c, h2⟩ : ∃ c, ev (.tmp 46) = .slice (some ⟨b0, 0, none⟩) k c := hd { on := 3, ground := .data } (by simp) rfl rfl _ rfl
            have hlk : (ts.take k).length = k := by rw [List.length_take]; omega
            obtain ⟨v', w'', hr, hO, hg⟩ := Call.append_run 25 h1 ⟨b0, 0, none⟩ c (qs := ts.take k) (fun j u hu => vals_take10 (hls w' hG) hkl j u hu) (by rw [hlk]; simp; omega) (hbw w' hG)
            rw [hlk] at hr
            refine stepTo_gen fun K' hK => step_app (s := .tmp 43) (x := .tmp 46) (t := 25) rfl (by rw [h2]; exact hr) (hK _ _ ⟨hG.grown h1 hg (Nat.le_refl _), ?_, (fun h => by cases h), hO⟩)
            have hg0 : w'.grownBy w'' (some g0) := by have := hg; rw [e0] at this; exact this
            refine ⟨g0, ?_, hg0⟩
            rcases h1.2.2 with ⟨e1, _⟩ | ⟨g1, cap1, cur1, e1, _, h5, _, _, h7, _⟩
            · rw [e0] at e1; cases e1
            · rw [e0] at e1; cases e1; exact ⟨_, _, h5, by rw [h7]⟩
          | 5, ho =>
            cases ho
            intro ev w' hc hfn hb hG hd
            have h1 : ev (.tmp 2) = .int .i64 n := hb 2 (by simp)
            refine stepTo_gen fun K' hK => ?_
            simp [go_sem, stepTo, hc, hfn, h1]
            exact hK _ _ ⟨hG, Below.refl _ _, (fun h => by cases h), rfl⟩
          | 6, ho =>
            cases ho
            intro ev w' hc hfn hb hG hd
            have h1 : ev (.tmp 3) = .int .i64 d := hb 3 (by simp)
            refine stepTo_gen fun K' hK => ?_
            simp [go_sem, stepTo, hc, hfn, h1]
            exact hK _ _ ⟨hG, Below.refl _ _, (fun h => by cases h), rfl⟩
          | 7, ho =>
            cases ho
            intro ev w' hc hfn hb hG hd
            have h1 : ev (.tmp 3) = .int .i64 d := hb 3 (by simp)
            refine stepTo_gen fun K' hK => ?_
            simp [go_sem, stepTo, hc, hfn, h1]
            exact hK _ _ ⟨hG, Below.refl _ _, (fun h => by cases h), rfl⟩
          | 8, ho =>
            cases ho
            intro ev w' hc hfn hb hG hd
            have h1 : ev (.tmp 48) = .int .i64 n := hd { on := 5, ground := .data } (by simp) rfl rfl _ rfl
            have h2 : ev (.tmp 49) = .int .i64 d := hd { on := 6, ground := .data } (by simp) rfl rfl _ rfl
            have h3 : ev (.tmp 50) = .int .i64 d := hd { on := 7, ground := .data } (by simp) rfl rfl _ rfl
            refine stepTo_gen fun K' hK => ?_
            simp [go_sem, stepTo, hc, hfn, h1, h2, h3]
            exact hK _ _ ⟨hG, Below.refl _ _, (fun h => by cases h), rfl⟩
          | 9, ho =>
            cases ho
            intro ev w' hc hfn hb hG hd
            have h1 : ev (.tmp 51) = .agg #[.int .i64 n, .int .i64 d, .int .i64 d, .int .i64 0] := hd { on := 8, ground := .data } (by simp) rfl rfl _ rfl
            refine stepTo_gen fun K' hK => ?_
            simp [go_sem, stepTo, hc, hfn, h1]
            exact hK _ _ ⟨hG.alloc _ (Nat.le_refl _), Call.bx _ _, (fun h => by cases h), ⟨_, _, rfl⟩, World.ownsRow_lit w' #[.int .i64 n, .int .i64 d, .int .i64 d, .int .i64 0] 1 (hbw w' hG) (by decide) rfl⟩
          | 10, ho =>
            cases ho
            intro ev w' hc hfn hb hG hd
            have h1 : Call.L w' wr.heap.size (ev (.tmp 47)) (ts.take k) := hd { on := 4, ground := .data } (by simp) rfl rfl _ rfl
            have h2 : Call.L w' wr.heap.size (ev (.tmp 52)) [⟨n, d, d, 0⟩] := hd { on := 9, ground := .data } (by simp) rfl rfl _ rfl
            obtain ⟨g2, c2, e2⟩ := h2.1
            rw [e2] at h2
            obtain ⟨v', w'', hr, hO, hg⟩ := Call.append_run 25 h1 ⟨g2, 0, none⟩ c2 (qs := [⟨n, d, d, 0⟩]) (fun j u hu => by rw [Addr.add_mid, Nat.zero_add]; exact h2.cell hu) (by rw [List.length_take]; simp; omega) (hbw w' hG)
            have e2' : ev (.tmp 52) = .slice (some ⟨g2, 0, none⟩) 1 c2 := e2
            have hr' : (Builtin.append_ #[25, 25] 25 #[ev (.tmp 47), .slice (some ⟨g2, 0, none⟩) 1 c2]).run Try.prog w' = .ok v' w'' := hr
            refine stepTo_gen fun K' hK => step_app (s := .tmp 47) (x := .tmp 52) (t := 25) rfl (by rw [e2']; exact hr') ?_
            exact hK _ _ ⟨hG.grown h1 hg (Nat.le_refl _), (Below.refl _ _).grown hg (hbw w' hG) (fun j hj => (h1.2.lt j hj).1), (fun h => by cases h), hO⟩
          | 13, ho =>
            cases ho
            intro ev w' hc hfn hb hG hd
            have h1 : ev (.tmp 54) = .slice (some ⟨b0, 0, none⟩) ts.length cap := hd { on := 11, ground := .data } (by simp) rfl rfl _ rfl
            have h2 : ev (.tmp 55) = .int .i64 (k : Int) := hd { on := 12, ground := .data } (by simp) rfl rfl _ rfl
            have hkc : k ≤ cap := by omega
            by_cases hck : cap = k
            · have hdn : ts.drop k = [] := List.drop_of_length_le (by omega)
              refine stepTo_gen fun K' hK => ?_
              simp [go_sem, stepTo, hc, hfn, h1, h2, hkl, hkc, hck]
              exact hK _ _ ⟨hG, Below.refl _ _, (fun h => by cases h), _, _, rfl, .inr hdn⟩
            · refine stepTo_gen fun K' hK => ?_
              simp [go_sem, stepTo, hc, hfn, h1, h2, hkl, hkc, hck]
              exact hK _ _ ⟨hG, Below.refl _ _, (fun h => by cases h), _, _, rfl, .inl rfl⟩
          | 14, ho =>
            cases ho
            intro ev w' hc hfn hb hG hd
            have h1 : Call.L w' wr.heap.size (ev (.tmp 53)) (ts.take k ++ [⟨n, d, d, 0⟩]) := hd { on := 10, ground := .data } (by simp) rfl rfl _ rfl
            obtain ⟨c, off, h2, hoff⟩ : ∃ c off, ev (.tmp 56) = .slice (some ⟨b0, off, none⟩) (ts.length - k) c ∧ (off = k * 4 ∨ ts.drop k = []) := hd { on := 13, ground := .data } (by simp) rfl rfl _ rfl
            have hlk : (ts.drop k).length = ts.length - k := List.length_drop
            obtain ⟨v', w'', hr, hO, hg⟩ := Call.append_run 25 h1 ⟨b0, off, none⟩ c (qs := ts.drop k) (fun j u hu => by
              rcases hoff with rfl | hoff
              case inr => rw [hoff] at hu; simp [Call.vals] at hu
              exact vals_drop10 (hls w' hG) hkl j u hu) (by simp only [List.length_append, List.length_take, List.length_drop, List.length_singleton]; omega) (hbw w' hG)
            rw [hlk] at hr
            refine stepTo_gen fun K' hK => step_app (s := .tmp 53) (x := .tmp 56) (t := 25) rfl (by rw [h2]; exact hr) ?_
            exact hK _ _ ⟨hG.grown h1 hg (Nat.le_refl _), (Below.refl _ _).grown hg (hbw w' hG) (fun j hj => (h1.2.lt j hj).1), (fun h => by cases h), hO⟩
          | 15, ho =>
            cases ho
            intro ev w' hc hfn hb hG hd
            have h1 : Call.L w' wr.heap.size (ev (.tmp 57)) (ts.take k ++ [⟨n, d, d, 0⟩] ++ ts.drop k) := hd { on := 14, ground := .data } (by simp) rfl rfl _ rfl
            refine stepTo_gen fun K' hK => ?_
            simp [go_sem, stepTo, hc, hfn]
            exact hK _ _ ⟨hG, Below.refl _ _, (fun h => by cases h), h1⟩
          | m + 16, ho => simp at ho
        · intro a w' hb hs' hdf hG hf
          have h6 : Call.L w' wr.heap.size (a.eval (.tmp 11)) (ts.take k ++ [⟨n, d, d, 0⟩] ++ ts.drop k) := hf 15 _ rfl rfl
          rw [HINS.out] at h6
          obtain ⟨g, cap2, hv⟩ := h6.1
          rw [hv] at h6
          obtain ⟨⟨ls⟩, dfs⟩ := a
          simp only at hdf
          subst hdf
          have hs' : ls.length = 68 := by simpa using hs'
          have hv' : (⟨ls⟩ : Array Value).getD 11 undef = .slice (some ⟨g, 0, none⟩) us.length cap2 := hv
          have HL6 := Lib.hid h6; have HB6 := Lib.hid (HB.out.trans (hG.1.mono HB.out.size))
          have HT := Lib.hid (specAreC_any (some ⟨g, 0, none⟩) us.length cap2 us w' rfl (by have := HUL.out; unfold maxLen; omega) HL6.out.reads)
          have HCt := Lib.hid (HCO.out w' HB6.out)
          have h0t : (⟨ls⟩ : Array Value).getD 0 undef = .slice ha hn hc := hb 0 (by simp)
          have h3t : (⟨ls⟩ : Array Value).getD 3 undef = .int .i64 d := hb 3 (by simp)
          clear hf hb hG h6 hv
          match ls, hs' with
          | x0 :: x1 :: x2 :: x3 :: x4 :: x5 :: x6 :: x7 :: x8 :: x9 :: x10 :: x11 :: x12 :: x13 :: x14 :: x15 :: x16 :: x17 :: x18 :: x19 :: x20 :: x21 :: x22 :: x23 :: x24 :: x25 :: x26 :: x27 :: x28 :: x29 :: x30 :: x31 :: x32 :: x33 :: x34 :: x35 :: x36 :: x37 :: x38 :: x39 :: x40 :: x41 :: x42 :: x43 :: x44 :: x45 :: x46 :: x47 :: x48 :: x49 :: x50 :: x51 :: x52 :: x53 :: x54 :: x55 :: x56 :: x57 :: x58 :: x59 :: x60 :: x61 :: x62 :: x63 :: x64 :: x65 :: x66 :: x67 :: [], _ =>
            have e11 : x11 = .slice (some ⟨g, 0, none⟩) us.length cap2 := hv'
            have e0 : x0 = .slice ha hn hc := h0t
            have e3 : x3 = .int .i64 d := h3t
            subst e11 e0 e3
            clear hv' h0t h3t
            cases hco : court hs d
            · have HFF := Lib.hid (HFc.out hco)
              rw [hco] at HCt
              clear hco
              go_wp2_with fail
              refine HCt.out.mono ?_; rintro e w2' ⟨rfl, hw⟩
              obtain rfl : w' = w2' := hw
              go_wp2_with fail
              go_ret2
              rw [HFF.out]
              exact SaysNewC.nil HB6.out
            cases hbu : areC us
            · have HFF := Lib.hid (HFa.out hbu)
              rw [hco] at HCt
              rw [hbu] at HT
              clear hbu hco
              go_wp2_with fail
              refine HCt.out.mono ?_; rintro e w2' ⟨rfl, hw⟩
              obtain rfl : w' = w2' := hw
              go_wp2_with fail
              refine HT.out.mono ?_; rintro e w2' ⟨rfl, hB⟩
              have HB7 := Lib.hid (HB6.out.trans (hB.mono HB6.out.size)); clear hB
              go_wp2_with fail
              go_ret2
              rw [HFF.out]
              exact SaysNewC.nil HB7.out
            · have HFF := Lib.hid (HFy.out hco hbu)
              rw [hco] at HCt
              rw [hbu] at HT
              clear hbu hco
              go_wp2_with fail
              refine HCt.out.mono ?_; rintro e w2' ⟨rfl, hw⟩
              obtain rfl : w' = w2' := hw
              go_wp2_with fail
              refine HT.out.mono ?_; rintro e w2' ⟨rfl, hB⟩
              have HB7 := Lib.hid (HB6.out.trans (hB.mono HB6.out.size)); have HL7 := Lib.hid ((HL6.out.below hB).base HB.out.size); clear hB
              obtain ⟨a7, cap7, he7, ho7⟩ := HL7.out.own
              cases he7
              have HO7 := Lib.hid ho7
              clear ho7
              go_wp2_with fail
              go_ret2
              rw [HFF.out]
              exact ⟨_, _, rfl, HO7.out, HB7.out⟩
      · clear hstop
        go_wp2_with fail
        obtain rfl := HL.out
        clear hlt
        refine wp_region_facts2 (sz := 68) [0, 1, 2, 3, 10] (by kernel_rfl) (by kernel_rfl) (by kernel_rfl) adGone adKeep (by kernel_rfl) (by kernel_rfl) (AdG wr.heap.size wr) (AdR wr.heap.size) (AdF wr.heap.size b0 cap k ts ⟨n, d, d, 0⟩) rfl ⟨Below.drew (Below.refl _ _), Nat.le_refl _⟩ ?_ ?_ ?_
        · intro i j u w2 w3 hi hj hkp hf hR
          have hi : i < 16 := hi; have hj : j < 16 := hj
          simp only [AdR] at hR
          by_cases h7 : i = 10 ∨ i = 14
          · rw [if_pos h7] at hR
            have hj2 : ¬ (j = 0 ∨ j = 4 ∨ j = 9 ∨ j = 10 ∨ j = 14 ∨ j = 15) := by
              intro h
              have : adKeep i j = false := by rcases h7 with rfl | rfl <;> rcases h with rfl | rfl | rfl | rfl | rfl | rfl <;> rfl
              rw [this] at hkp; cases hkp
            unfold AdF at hf ⊢
            split at hf <;> first | exact hf | (exfalso; omega)
          · rw [if_neg h7] at hR
            by_cases h4 : i = 4
            · rw [if_pos h4] at hR
              subst h4
              have hj2 : ¬ (j = 0 ∨ j = 4) := by
                rintro (rfl | rfl) <;> cases hkp
              obtain ⟨g0, he, hg⟩ := hR
              unfold AdF at hf ⊢
              split at hf <;> first | exact hf | (exfalso; omega) | exact hf.other (by simp) he hg
            · rw [if_neg h4] at hR
              unfold AdF at hf ⊢
              split at hf <;> first | exact hf | exact hf.below hR | exact ⟨hf.1, hf.2.below hR⟩ | trivial
        · intro i o ho
          have hbw : ∀ W, AdG wr.heap.size wr W → wr.heap.size ≤ W.heap.size := fun W h => h.2
          have hls : ∀ W, AdG wr.heap.size wr W → Call.ListAt W (some ⟨b0, 0, none⟩) ts := fun W h => HIr.out.below h.1
          match i, ho with
          | 0, ho =>
            cases ho
            intro ev w' hc hfn hb hG hd
            refine stepTo_gen fun K' hK => ?_
            simp [go_sem, stepTo, hc, hfn]
            exact hK _ _ ⟨hG.alloc _ (Nat.le_refl _), Call.bx _ _, (fun h => by cases h), ⟨_, rfl⟩, ⟨_, _, rfl⟩, World.ownsRow_lit w' #[] 0 (hbw w' hG) (by decide) rfl⟩
          | 1, ho | 11, ho =>
            cases ho
            intro ev w' hc hfn hb hG hd
            have h0 : ev (.tmp 1) = .slice (some ⟨b0, 0, none⟩) ts.length cap := hb 1 (by simp)
            refine stepTo_gen fun K' hK => ?_
            simp [go_sem, stepTo, hc, hfn, h0]
            exact hK _ _ ⟨hG, Below.refl _ _, (fun h => by cases h), rfl⟩
          | 2, ho | 12, ho =>
            cases ho
            intro ev w' hc hfn hb hG hd
            have h0 : ev (.tmp 10) = .int .i64 (k : Int) := hb 10 (by simp)
            refine stepTo_gen fun K' hK => ?_
            simp [go_sem, stepTo, hc, hfn, h0]
            exact hK _ _ ⟨hG, Below.refl _ _, (fun h => by cases h), rfl⟩
          | 3, ho =>
            cases ho
            intro ev w' hc hfn hb hG hd
            have h1 : ev (.tmp 44) = .slice (some ⟨b0, 0, none⟩) ts.length cap := hd { on := 1, ground := .data } (by simp) rfl rfl _ rfl
            have h2 : ev (.tmp 45) = .int .i64 (k : Int) := hd { on := 2, ground := .data } (by simp) rfl rfl _ rfl
            have hkc : k ≤ cap := by omega
            refine stepTo_gen fun K' hK => ?_
            simp [go_sem, stepTo, hc, hfn, h1, h2, hk, hkc]
            exact hK _ _ ⟨hG, Below.refl _ _, (fun h => by cases h), _, rfl⟩
          | 4, ho =>
            cases ho
            intro ev w' hc hfn hb hG hd
            obtain ⟨⟨g0, e0⟩, h1⟩ : (∃ g0, ev (.tmp 43) = .slice (some ⟨g0, 0, none⟩) 0 0) ∧ Call.L w' wr.heap.size (ev (.tmp 43)) [] := hd { on := 0, ground := .data } (by simp) rfl rfl _ rfl
            obtain ⟨c, h2⟩ : ∃ c, ev (.tmp 46) = .slice (some ⟨b0, 0, none⟩) k c := hd { on := 3, ground := .data } (by simp) rfl rfl _ rfl
            have hlk : (ts.take k).length = k := by rw [List.length_take]; omega
            obtain ⟨v', w'', hr, hO, hg⟩ := Call.append_run 25 h1 ⟨b0, 0, none⟩ c (qs := ts.take k) (fun j u hu => vals_take10 (hls w' hG) hkl j u hu) (by rw [hlk]; simp; omega) (hbw w' hG)
            rw [hlk] at hr
            refine stepTo_gen fun K' hK => step_app (s := .tmp 43) (x := .tmp 46) (t := 25) rfl (by rw [h2]; exact hr) (hK _ _ ⟨hG.grown h1 hg (Nat.le_refl _), ?_, (fun h => by cases h), hO⟩)
            have hg0 : w'.grownBy w'' (some g0) := by have := hg; rw [e0] at this; exact this
            refine ⟨g0, ?_, hg0⟩
            rcases h1.2.2 with ⟨e1, _⟩ | ⟨g1, cap1, cur1, e1, _, h5, _, _, h7, _⟩
            · rw [e0] at e1; cases e1
            · rw [e0] at e1; cases e1; exact ⟨_, _, h5, by rw [h7]⟩
          | 5, ho =>
            cases ho
            intro ev w' hc hfn hb hG hd
            have h1 : ev (.tmp 2) = .int .i64 n := hb 2 (by simp)
            refine stepTo_gen fun K' hK => ?_
            simp [go_sem, stepTo, hc, hfn, h1]
            exact hK _ _ ⟨hG, Below.refl _ _, (fun h => by cases h), rfl⟩
          | 6, ho =>
            cases ho
            intro ev w' hc hfn hb hG hd
            have h1 : ev (.tmp 3) = .int .i64 d := hb 3 (by simp)
            refine stepTo_gen fun K' hK => ?_
            simp [go_sem, stepTo, hc, hfn, h1]
            exact hK _ _ ⟨hG, Below.refl _ _, (fun h => by cases h), rfl⟩
          | 7, ho =>
            cases ho
            intro ev w' hc hfn hb hG hd
            have h1 : ev (.tmp 3) = .int .i64 d := hb 3 (by simp)
            refine stepTo_gen fun K' hK => ?_
            simp [go_sem, stepTo, hc, hfn, h1]
            exact hK _ _ ⟨hG, Below.refl _ _, (fun h => by cases h), rfl⟩
          | 8, ho =>
            cases ho
            intro ev w' hc hfn hb hG hd
            have h1 : ev (.tmp 48) = .int .i64 n := hd { on := 5, ground := .data } (by simp) rfl rfl _ rfl
            have h2 : ev (.tmp 49) = .int .i64 d := hd { on := 6, ground := .data } (by simp) rfl rfl _ rfl
            have h3 : ev (.tmp 50) = .int .i64 d := hd { on := 7, ground := .data } (by simp) rfl rfl _ rfl
            refine stepTo_gen fun K' hK => ?_
            simp [go_sem, stepTo, hc, hfn, h1, h2, h3]
            exact hK _ _ ⟨hG, Below.refl _ _, (fun h => by cases h), rfl⟩
          | 9, ho =>
            cases ho
            intro ev w' hc hfn hb hG hd
            have h1 : ev (.tmp 51) = .agg #[.int .i64 n, .int .i64 d, .int .i64 d, .int .i64 0] := hd { on := 8, ground := .data } (by simp) rfl rfl _ rfl
            refine stepTo_gen fun K' hK => ?_
            simp [go_sem, stepTo, hc, hfn, h1]
            exact hK _ _ ⟨hG.alloc _ (Nat.le_refl _), Call.bx _ _, (fun h => by cases h), ⟨_, _, rfl⟩, World.ownsRow_lit w' #[.int .i64 n, .int .i64 d, .int .i64 d, .int .i64 0] 1 (hbw w' hG) (by decide) rfl⟩
          | 10, ho =>
            cases ho
            intro ev w' hc hfn hb hG hd
            have h1 : Call.L w' wr.heap.size (ev (.tmp 47)) (ts.take k) := hd { on := 4, ground := .data } (by simp) rfl rfl _ rfl
            have h2 : Call.L w' wr.heap.size (ev (.tmp 52)) [⟨n, d, d, 0⟩] := hd { on := 9, ground := .data } (by simp) rfl rfl _ rfl
            obtain ⟨g2, c2, e2⟩ := h2.1
            rw [e2] at h2
            obtain ⟨v', w'', hr, hO, hg⟩ := Call.append_run 25 h1 ⟨g2, 0, none⟩ c2 (qs := [⟨n, d, d, 0⟩]) (fun j u hu => by rw [Addr.add_mid, Nat.zero_add]; exact h2.cell hu) (by rw [List.length_take]; simp; omega) (hbw w' hG)
            have e2' : ev (.tmp 52) = .slice (some ⟨g2, 0, none⟩) 1 c2 := e2
            have hr' : (Builtin.append_ #[25, 25] 25 #[ev (.tmp 47), .slice (some ⟨g2, 0, none⟩) 1 c2]).run Try.prog w' = .ok v' w'' := hr
            refine stepTo_gen fun K' hK => step_app (s := .tmp 47) (x := .tmp 52) (t := 25) rfl (by rw [e2']; exact hr') ?_
            exact hK _ _ ⟨hG.grown h1 hg (Nat.le_refl _), (Below.refl _ _).grown hg (hbw w' hG) (fun j hj => (h1.2.lt j hj).1), (fun h => by cases h), hO⟩
          | 13, ho =>
            cases ho
            intro ev w' hc hfn hb hG hd
            have h1 : ev (.tmp 54) = .slice (some ⟨b0, 0, none⟩) ts.length cap := hd { on := 11, ground := .data } (by simp) rfl rfl _ rfl
            have h2 : ev (.tmp 55) = .int .i64 (k : Int) := hd { on := 12, ground := .data } (by simp) rfl rfl _ rfl
            have hkc : k ≤ cap := by omega
            by_cases hck : cap = k
            · have hdn : ts.drop k = [] := List.drop_of_length_le (by omega)
              refine stepTo_gen fun K' hK => ?_
              simp [go_sem, stepTo, hc, hfn, h1, h2, hkl, hkc, hck]
              exact hK _ _ ⟨hG, Below.refl _ _, (fun h => by cases h), _, _, rfl, .inr hdn⟩
            · refine stepTo_gen fun K' hK => ?_
              simp [go_sem, stepTo, hc, hfn, h1, h2, hkl, hkc, hck]
              exact hK _ _ ⟨hG, Below.refl _ _, (fun h => by cases h), _, _, rfl, .inl rfl⟩
          | 14, ho =>
            cases ho
            intro ev w' hc hfn hb hG hd
            have h1 : Call.L w' wr.heap.size (ev (.tmp 53)) (ts.take k ++ [⟨n, d, d, 0⟩]) := hd { on := 10, ground := .data } (by simp) rfl rfl _ rfl
            obtain ⟨c, off, h2, hoff⟩ : ∃ c off, ev (.tmp 56) = .slice (some ⟨b0, off, none⟩) (ts.length - k) c ∧ (off = k * 4 ∨ ts.drop k = []) := hd { on := 13, ground := .data } (by simp) rfl rfl _ rfl
            have hlk : (ts.drop k).length = ts.length - k := List.length_drop
            obtain ⟨v', w'', hr, hO, hg⟩ := Call.append_run 25 h1 ⟨b0, off, none⟩ c (qs := ts.drop k) (fun j u hu => by
              rcases hoff with rfl | hoff
              case inr => rw [hoff] at hu; simp [Call.vals] at hu
              exact vals_drop10 (hls w' hG) hkl j u hu) (by simp only [List.length_append, List.length_take, List.length_drop, List.length_singleton]; omega) (hbw w' hG)
            rw [hlk] at hr
            refine stepTo_gen fun K' hK => step_app (s := .tmp 53) (x := .tmp 56) (t := 25) rfl (by rw [h2]; exact hr) ?_
            exact hK _ _ ⟨hG.grown h1 hg (Nat.le_refl _), (Below.refl _ _).grown hg (hbw w' hG) (fun j hj => (h1.2.lt j hj).1), (fun h => by cases h), hO⟩
          | 15, ho =>
            cases ho
            intro ev w' hc hfn hb hG hd
            have h1 : Call.L w' wr.heap.size (ev (.tmp 57)) (ts.take k ++ [⟨n, d, d, 0⟩] ++ ts.drop k) := hd { on := 14, ground := .data } (by simp) rfl rfl _ rfl
            refine stepTo_gen fun K' hK => ?_
            simp [go_sem, stepTo, hc, hfn]
            exact hK _ _ ⟨hG, Below.refl _ _, (fun h => by cases h), h1⟩
          | m + 16, ho => simp at ho
        · intro a w' hb hs' hdf hG hf
          have h6 : Call.L w' wr.heap.size (a.eval (.tmp 11)) (ts.take k ++ [⟨n, d, d, 0⟩] ++ ts.drop k) := hf 15 _ rfl rfl
          rw [HINS.out] at h6
          obtain ⟨g, cap2, hv⟩ := h6.1
          rw [hv] at h6
          obtain ⟨⟨ls⟩, dfs⟩ := a
          simp only at hdf
          subst hdf
          have hs' : ls.length = 68 := by simpa using hs'
          have hv' : (⟨ls⟩ : Array Value).getD 11 undef = .slice (some ⟨g, 0, none⟩) us.length cap2 := hv
          have HL6 := Lib.hid h6; have HB6 := Lib.hid (HB.out.trans (hG.1.mono HB.out.size))
          have HT := Lib.hid (specAreC_any (some ⟨g, 0, none⟩) us.length cap2 us w' rfl (by have := HUL.out; unfold maxLen; omega) HL6.out.reads)
          have HCt := Lib.hid (HCO.out w' HB6.out)
          have h0t : (⟨ls⟩ : Array Value).getD 0 undef = .slice ha hn hc := hb 0 (by simp)
          have h3t : (⟨ls⟩ : Array Value).getD 3 undef = .int .i64 d := hb 3 (by simp)
          clear hf hb hG h6 hv
          match ls, hs' with
          | x0 :: x1 :: x2 :: x3 :: x4 :: x5 :: x6 :: x7 :: x8 :: x9 :: x10 :: x11 :: x12 :: x13 :: x14 :: x15 :: x16 :: x17 :: x18 :: x19 :: x20 :: x21 :: x22 :: x23 :: x24 :: x25 :: x26 :: x27 :: x28 :: x29 :: x30 :: x31 :: x32 :: x33 :: x34 :: x35 :: x36 :: x37 :: x38 :: x39 :: x40 :: x41 :: x42 :: x43 :: x44 :: x45 :: x46 :: x47 :: x48 :: x49 :: x50 :: x51 :: x52 :: x53 :: x54 :: x55 :: x56 :: x57 :: x58 :: x59 :: x60 :: x61 :: x62 :: x63 :: x64 :: x65 :: x66 :: x67 :: [], _ =>
            have e11 : x11 = .slice (some ⟨g, 0, none⟩) us.length cap2 := hv'
            have e0 : x0 = .slice ha hn hc := h0t
            have e3 : x3 = .int .i64 d := h3t
            subst e11 e0 e3
            clear hv' h0t h3t
            cases hco : court hs d
            · have HFF := Lib.hid (HFc.out hco)
              rw [hco] at HCt
              clear hco
              go_wp2_with fail
              refine HCt.out.mono ?_; rintro e w2' ⟨rfl, hw⟩
              obtain rfl : w' = w2' := hw
              go_wp2_with fail
              go_ret2
              rw [HFF.out]
              exact SaysNewC.nil HB6.out
            cases hbu : areC us
            · have HFF := Lib.hid (HFa.out hbu)
              rw [hco] at HCt
              rw [hbu] at HT
              clear hbu hco
              go_wp2_with fail
              refine HCt.out.mono ?_; rintro e w2' ⟨rfl, hw⟩
              obtain rfl : w' = w2' := hw
              go_wp2_with fail
              refine HT.out.mono ?_; rintro e w2' ⟨rfl, hB⟩
              have HB7 := Lib.hid (HB6.out.trans (hB.mono HB6.out.size)); clear hB
              go_wp2_with fail
              go_ret2
              rw [HFF.out]
              exact SaysNewC.nil HB7.out
            · have HFF := Lib.hid (HFy.out hco hbu)
              rw [hco] at HCt
              rw [hbu] at HT
              clear hbu hco
              go_wp2_with fail
              refine HCt.out.mono ?_; rintro e w2' ⟨rfl, hw⟩
              obtain rfl : w' = w2' := hw
              go_wp2_with fail
              refine HT.out.mono ?_; rintro e w2' ⟨rfl, hB⟩
              have HB7 := Lib.hid (HB6.out.trans (hB.mono HB6.out.size)); have HL7 := Lib.hid ((HL6.out.below hB).base HB.out.size); clear hB
              obtain ⟨a7, cap7, he7, ho7⟩ := HL7.out.own
              cases he7
              have HO7 := Lib.hid ho7
              clear ho7
              go_wp2_with fail
              go_ret2
              rw [HFF.out]
              exact ⟨_, _, rfl, HO7.out, HB7.out⟩

def DrpR (B : Nat) (i : Nat) (w w' : World) : Prop := if i = 9 then Below B w w' else if i = 4 then ∃ g, (∃ cur T, w.heap[g]? = some (.cells cur T (0, 0)) ∧ cur.size = 0) ∧ w.grownBy w' (some g) else Below w.heap.size w w'
def DrpF (B b0 cap k : Nat) (ts : List Call) : Nat → Value → World → Prop
  | 0, v, w => (∃ g, v = .slice (some ⟨g, 0, none⟩) 0 0) ∧ Call.L w B v []
  | 1, v, _ | 5, v, _ => v = .slice (some ⟨b0, 0, none⟩) ts.length cap
  | 2, v, _ | 6, v, _ => v = .int .i64 (k : Int)
  | 3, v, _ => ∃ c, v = .slice (some ⟨b0, 0, none⟩) k c
  | 4, v, w => Call.L w B v (ts.take k)
  | 7, v, _ => v = .int .i64 ((k + 1 : Nat) : Int)
  | 8, v, _ => ∃ c off, v = .slice (some ⟨b0, off, none⟩) (ts.length - (k + 1)) c ∧ (off = (k + 1) * 4 ∨ ts.drop (k + 1) = [])
  | 9, v, w | 10, v, w => Call.L w B v (ts.take k ++ ts.drop (k + 1))
  | 11, v, _ => v = .int .i64 0
  | _, _, _ => True
def drpGone : Nat → Option Nat
  | 0 | 3 => some 4
  | 4 | 8 => some 9
  | 9 => some 10
  | _ => none
def drpKeep (i j : Nat) : Bool := !((i == 4 && (j == 0 || j == 4 || j == 9 || j == 10)) || i == 9 && (j == 0 || j == 4 || j == 9 || j == 10))

set_option maxRecDepth 100000 in
set_option maxHeartbeats 8000000 in
theorem specDropCall_any (b0 len cap : Nat) (ts : List Call) (n : Int) (w : World) (hl : ts.length = len) (hm : len ≤ maxLen) (h : Call.ListAt w (some ⟨b0, 0, none⟩) ts) (hcap : len ≤ cap) :
    Calls Try.prog 24 #[.slice (some ⟨b0, 0, none⟩) len cap, .int .i64 n] w (SaysNewC (dropR ts n).1 (dropR ts n).2 w) := by
  have HC := Lib.hid (fun (W : World) (hB : Below w.heap.size w W) => specCode10_any none 0 0 [] (some ⟨b0, 0, none⟩) len cap ts n 0 W rfl (by unfold maxLen; omega) (.inl rfl) hl hm (h.below hB))
  have HX := Lib.hid (fun (W : World) (hB : Below w.heap.size w W) => specFind10_any (some ⟨b0, 0, none⟩) len cap ts n W hl hm (h.below hB))
  rw [show isDay 0 = true from rfl] at HC
  rcases findC_cases [] ts (true) n with ⟨h0, ⟨hH, hA, hb⟩, c, hw⟩ | h0 | h0 | h0
  · obtain ⟨hc1, hn1⟩ := whoC_some hw
    have hk := lt_of_getC hc1
    have HF := Lib.hid (show dropR ts n = _ from dropR_ok h0)
    have hlen : len ≤ 20 := by rw [← hl]; exact areC_len hA
    have HL := Lib.hid hl; have HI := Lib.hid h
    obtain ⟨b, off, c', ha1, hcc, hp⟩ := h.at hl (show placeC ts n < len by omega)
    rw [hc1] at hp
    obtain rfl := Option.some.inj hp
    cases ha1
    have HXC := Lib.hid hcc
    have hkl : placeC ts n < len := by omega
    rw [h0] at HC
    rw [indexC_some hA hw] at HX
    generalize hv : dropR ts n = v at HF ⊢
    clear h0 hH hA hb hw hn1 hcc hp hv h
    generalize placeC ts n = k at *
    go_enter Try.func24, Try.ntmps24
    go_wp2_with fail
    refine (HC.out _ (Below.refl _ _)).mono ?_; rintro e w2 ⟨rfl, hB⟩
    have HB := Lib.hid hB; clear hB
    go_wp2_with fail
    refine (HX.out w2 HB.out).mono ?_; rintro e w2' ⟨rfl, hw'⟩
    obtain rfl : w2 = w2' := hw'.symm
    obtain ⟨c0, c1, c2, c3⟩ := HXC.out.below HB.out
    rw [Nat.zero_add] at c0 c1 c2 c3
    have HIr := Lib.hid (HI.out.below HB.out)
    have q1 : IntKind.i64.wrap ((k : Int) + 1) = (k : Int) + 1 := IntWalk.i64_in _ (by omega)
    go_wp2_with fail
    clear c0 c1 c2 c3
    obtain rfl := HL.out
    refine wp_region_facts2 (sz := 27) [0, 7] (by kernel_rfl) (by kernel_rfl) (by kernel_rfl) drpGone drpKeep (by kernel_rfl) (by kernel_rfl) (AdG w2.heap.size w2) (DrpR w2.heap.size) (DrpF w2.heap.size b0 cap k ts) rfl ⟨Below.drew (Below.refl _ _), Nat.le_refl _⟩ ?_ ?_ ?_
    · intro i j u w3 w4 hi hj hkp hf hR
      have hi : i < 12 := hi; have hj : j < 12 := hj
      simp only [DrpR] at hR
      by_cases h7 : i = 9
      · rw [if_pos h7] at hR
        have hj2 : ¬ (j = 0 ∨ j = 4 ∨ j = 9 ∨ j = 10) := by
          intro h
          have : drpKeep i j = false := by subst h7; rcases h with rfl | rfl | rfl | rfl <;> rfl
          rw [this] at hkp; cases hkp
        unfold DrpF at hf ⊢
        split at hf <;> first | exact hf | (exfalso; omega)
      · rw [if_neg h7] at hR
        by_cases h4 : i = 4
        · rw [if_pos h4] at hR
          subst h4
          have hj2 : ¬ (j = 0 ∨ j = 4 ∨ j = 9 ∨ j = 10) := by
            rintro (rfl | rfl | rfl | rfl) <;> cases hkp
          obtain ⟨g0, he, hg⟩ := hR
          unfold DrpF at hf ⊢
          split at hf <;> first | exact hf | (exfalso; omega)
        · rw [if_neg h4] at hR
          unfold DrpF at hf ⊢
          split at hf <;> first | exact hf | exact hf.below hR | exact ⟨hf.1, hf.2.below hR⟩ | trivial
    · intro i o ho
      have hbw : ∀ W, AdG w2.heap.size w2 W → w2.heap.size ≤ W.heap.size := fun W h => h.2
      have hls : ∀ W, AdG w2.heap.size w2 W → Call.ListAt W (some ⟨b0, 0, none⟩) ts := fun W h => HIr.out.below h.1
      match i, ho with
      | 0, ho =>
        cases ho
        intro ev w' hc hfn hb hG hd
        refine stepTo_gen fun K' hK => ?_
        simp [go_sem, stepTo, hc, hfn]
        exact hK _ _ ⟨hG.alloc _ (Nat.le_refl _), Call.bx _ _, (fun h => by cases h), ⟨_, rfl⟩, ⟨_, _, rfl⟩, World.ownsRow_lit w' #[] 0 (hbw w' hG) (by decide) rfl⟩
      | 1, ho | 5, ho =>
        cases ho
        intro ev w' hc hfn hb hG hd
        have h0 : ev (.tmp 0) = .slice (some ⟨b0, 0, none⟩) ts.length cap := hb 0 (by simp)
        refine stepTo_gen fun K' hK => ?_
        simp [go_sem, stepTo, hc, hfn, h0]
        exact hK _ _ ⟨hG, Below.refl _ _, (fun h => by cases h), rfl⟩
      | 2, ho | 6, ho =>
        cases ho
        intro ev w' hc hfn hb hG hd
        have h0 : ev (.tmp 7) = .int .i64 (k : Int) := hb 7 (by simp)
        refine stepTo_gen fun K' hK => ?_
        simp [go_sem, stepTo, hc, hfn, h0]
        exact hK _ _ ⟨hG, Below.refl _ _, (fun h => by cases h), rfl⟩
      | 3, ho =>
        cases ho
        intro ev w' hc hfn hb hG hd
        have h1 : ev (.tmp 18) = .slice (some ⟨b0, 0, none⟩) ts.length cap := hd { on := 1, ground := .data } (by simp) rfl rfl _ rfl
        have h2 : ev (.tmp 19) = .int .i64 (k : Int) := hd { on := 2, ground := .data } (by simp) rfl rfl _ rfl
        have hkc : k ≤ cap := by omega
        have hkl : k ≤ ts.length := by omega
        refine stepTo_gen fun K' hK => ?_
        simp [go_sem, stepTo, hc, hfn, h1, h2, hkl, hkc]
        exact hK _ _ ⟨hG, Below.refl _ _, (fun h => by cases h), _, rfl⟩
      | 4, ho =>
        cases ho
        intro ev w' hc hfn hb hG hd
        obtain ⟨⟨g0, e0⟩, h1⟩ : (∃ g0, ev (.tmp 17) = .slice (some ⟨g0, 0, none⟩) 0 0) ∧ Call.L w' w2.heap.size (ev (.tmp 17)) [] := hd { on := 0, ground := .data } (by simp) rfl rfl _ rfl
        obtain ⟨c, h2⟩ : ∃ c, ev (.tmp 20) = .slice (some ⟨b0, 0, none⟩) k c := hd { on := 3, ground := .data } (by simp) rfl rfl _ rfl
        have hlk : (ts.take k).length = k := by rw [List.length_take]; omega
        obtain ⟨v', w'', hr, hO, hg⟩ := Call.append_run 25 h1 ⟨b0, 0, none⟩ c (qs := ts.take k) (fun j u hu => vals_take10 (hls w' hG) (by omega) j u hu) (by rw [hlk]; simp; omega) (hbw w' hG)
        rw [hlk] at hr
        refine stepTo_gen fun K' hK => step_app (s := .tmp 17) (x := .tmp 20) (t := 25) rfl (by rw [h2]; exact hr) (hK _ _ ⟨hG.grown h1 hg (Nat.le_refl _), ?_, (fun h => by cases h), hO⟩)
        have hg0 : w'.grownBy w'' (some g0) := by have := hg; rw [e0] at this; exact this
        refine ⟨g0, ?_, hg0⟩
        rcases h1.2.2 with ⟨e1, _⟩ | ⟨g1, cap1, cur1, e1, _, h5, _, _, h7, _⟩
        · rw [e0] at e1; cases e1
        · rw [e0] at e1; cases e1; exact ⟨_, _, h5, by rw [h7]⟩
      | 7, ho =>
        cases ho
        intro ev w' hc hfn hb hG hd
        have h1 : ev (.tmp 23) = .int .i64 (k : Int) := hd { on := 6, ground := .data } (by simp) rfl rfl _ rfl
        refine stepTo_gen fun K' hK => ?_
        simp [go_sem, stepTo, hc, hfn, h1, q1]
        exact hK _ _ ⟨hG, Below.refl _ _, (fun h => by cases h), by simp [DrpF]⟩
      | 8, ho =>
        cases ho
        intro ev w' hc hfn hb hG hd
        have h1 : ev (.tmp 22) = .slice (some ⟨b0, 0, none⟩) ts.length cap := hd { on := 5, ground := .data } (by simp) rfl rfl _ rfl
        have h2 : ev (.tmp 24) = .int .i64 ((k + 1 : Nat) : Int) := hd { on := 7, ground := .data } (by simp) rfl rfl _ rfl
        have hkc : k + 1 ≤ cap := by omega
        have hk1 : k + 1 ≤ ts.length := by omega
        obtain ⟨k1, hk1e⟩ : ∃ k1, k1 = k + 1 := ⟨_, rfl⟩
        by_cases hck : cap = k + 1
        · have hdn : ts.drop (k + 1) = [] := List.drop_of_length_le (by omega)
          refine stepTo_gen fun K' hK => ?_
          rw [← hk1e] at h2 hkc hk1 hck
          simp [go_sem, stepTo, hc, hfn, h1, h2, hk1, hkc, hck]
          subst hk1e
          exact hK _ _ ⟨hG, Below.refl _ _, (fun h => by cases h), _, _, rfl, .inr hdn⟩
        · refine stepTo_gen fun K' hK => ?_
          rw [← hk1e] at h2 hkc hk1 hck
          simp [go_sem, stepTo, hc, hfn, h1, h2, hk1, hkc, hck]
          subst hk1e
          exact hK _ _ ⟨hG, Below.refl _ _, (fun h => by cases h), _, _, rfl, .inl rfl⟩
      | 9, ho =>
        cases ho
        intro ev w' hc hfn hb hG hd
        have h1 : Call.L w' w2.heap.size (ev (.tmp 21)) (ts.take k) := hd { on := 4, ground := .data } (by simp) rfl rfl _ rfl
        obtain ⟨c, off, h2, hoff⟩ : ∃ c off, ev (.tmp 25) = .slice (some ⟨b0, off, none⟩) (ts.length - (k + 1)) c ∧ (off = (k + 1) * 4 ∨ ts.drop (k + 1) = []) := hd { on := 8, ground := .data } (by simp) rfl rfl _ rfl
        have hlk : (ts.drop (k + 1)).length = ts.length - (k + 1) := List.length_drop
        obtain ⟨v', w'', hr, hO, hg⟩ := Call.append_run 25 h1 ⟨b0, off, none⟩ c (qs := ts.drop (k + 1)) (fun j u hu => by
          rcases hoff with rfl | hoff
          case inr => rw [hoff] at hu; simp [Call.vals] at hu
          exact vals_drop10 (hls w' hG) (by omega) j u hu) (by simp only [List.length_take, List.length_drop]; omega) (hbw w' hG)
        rw [hlk] at hr
        refine stepTo_gen fun K' hK => step_app (s := .tmp 21) (x := .tmp 25) (t := 25) rfl (by rw [h2]; exact hr) ?_
        exact hK _ _ ⟨hG.grown h1 hg (Nat.le_refl _), (Below.refl _ _).grown hg (hbw w' hG) (fun j hj => (h1.2.lt j hj).1), (fun h => by cases h), hO⟩
      | 10, ho =>
        cases ho
        intro ev w' hc hfn hb hG hd
        have h1 : Call.L w' w2.heap.size (ev (.tmp 26)) (ts.take k ++ ts.drop (k + 1)) := hd { on := 9, ground := .data } (by simp) rfl rfl _ rfl
        refine stepTo_gen fun K' hK => ?_
        simp [go_sem, stepTo, hc, hfn]
        exact hK _ _ ⟨hG, Below.refl _ _, (fun h => by cases h), h1⟩
      | 11, ho =>
        cases ho
        intro ev w' hc hfn hb hG hd
        refine stepTo_gen fun K' hK => ?_
        simp [go_sem, stepTo, hc, hfn]
        exact hK _ _ ⟨hG, Below.refl _ _, (fun h => by cases h), rfl⟩
      | m + 12, ho => simp at ho
    · intro a w' hb hs' hdf hG hf
      have h6 : Call.L w' w2.heap.size (a.eval (.tmp 4)) (ts.take k ++ ts.drop (k + 1)) := hf 10 _ rfl rfl
      have h7 : a.eval (.tmp 5) = .int .i64 0 := hf 11 _ rfl rfl
      generalize ts.take k ++ ts.drop (k + 1) = us at HF h6 ⊢
      have HL7 := h6.base HB.out.size
      obtain ⟨a7, cap7, he7, ho7⟩ := HL7.own
      have HB6 := Lib.hid (HB.out.trans (hG.1.mono HB.out.size))
      obtain ⟨tmps, dfs⟩ := a
      simp only at hdf
      subst hdf
      have h4' : tmps.getD 4 undef = .slice a7 us.length cap7 := he7
      have h5' : tmps.getD 5 undef = .int .i64 0 := h7
      have HO7 := Lib.hid ho7
      clear hf hb h6 h7 hs' hG HL7 he7 ho7
      go_wp2_with fail
      (try simp only [Exit.inBlock, Exit.then])
      refine bodyPost_ret (results_tmp2 rfl _ _ _) rfl ?_
      rw [h4', h5', HF.out]
      exact ⟨_, _, rfl, HO7.out, HB6.out⟩
  · have HF := Lib.hid (dropR_bad h0 (by omega))
    rw [h0] at HC
    generalize hv : dropR ts n = v at HF ⊢
    clear h0 hv
    go_enter Try.func24, Try.ntmps24
    go_wp2_with fail
    refine (HC.out _ (Below.refl _ _)).mono ?_; rintro e w2 ⟨rfl, hB⟩
    have HB := Lib.hid hB; clear hB
    go_wp2_with fail
    go_ret2
    rw [HF.out]
    exact SaysNewC.nil HB.out
  · have HF := Lib.hid (dropR_bad h0 (by omega))
    rw [h0] at HC
    generalize hv : dropR ts n = v at HF ⊢
    clear h0 hv
    go_enter Try.func24, Try.ntmps24
    go_wp2_with fail
    refine (HC.out _ (Below.refl _ _)).mono ?_; rintro e w2 ⟨rfl, hB⟩
    have HB := Lib.hid hB; clear hB
    go_wp2_with fail
    go_ret2
    rw [HF.out]
    exact SaysNewC.nil HB.out
  · have HF := Lib.hid (dropR_bad h0 (by omega))
    rw [h0] at HC
    generalize hv : dropR ts n = v at HF ⊢
    clear h0 hv
    go_enter Try.func24, Try.ntmps24
    go_wp2_with fail
    refine (HC.out _ (Below.refl _ _)).mono ?_; rintro e w2 ⟨rfl, hB⟩
    have HB := Lib.hid hB; clear hB
    go_wp2_with fail
    go_ret2
    rw [HF.out]
    exact SaysNewC.nil HB.out

end Go.Proofs.Ytekhdggaelppkaa
