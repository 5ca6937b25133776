/- Contract of chapter 9's model: sending a summons. (written by impl9.py) -/
import Derived.Test.YtchffaohmeaccaaDoorChecked
import Derived.Test.YtchffaohmeaccaaDoorBase0
import Derived.Test.YtchffaohmeaccaaDoorInfo
import Derived.Test.YtchffaohmeaccaaDoorPure21
import Derived.Test.YtchffaohmeaccaaDoorMarkI
import Derived.Test.YtchffaohmeaccaaDoorSummonsB
import Derived.Test.YtchffaohmeaccaaDoorSummonsC
import Derived.Test.YtchffaohmeaccaaDoorSummonsD
import Derived.Test.YtchffaohmeaccaaDoorPure91
import Derived.Test.YtchffaohmeaccaaDoorSpec90
import Derived.Test.YtchffaohmeaccaaDoorDay2
import Derived.Test.YtchffaohmeaccaaDoorDay5
import Derived.Test.YtchffaohmeaccaaDoorSet9
import Derived.Test.YtchffaohmeaccaaDoorCopy9
import Derived.Test.YtchffaohmeaccaaDoorFacts2
import Derived.Test.YtchffaohmeaccaaDoorStepApp
import Derived.WalkKit
import Derived.WalkSpells
import Derived.WalkLawsBesides
import Derived.Lib.Hide
import Derived.Lib.QuietBelow
import Derived.IntWalk
import Derived.Deep.QuietTactic
import Derived.BigQuiet
import Derived.BigRegion
import Derived.OwnWalk
import Derived.RegionTactic
import Derived.Outline
namespace Go.Proofs.YtchffaohmeaccaaDoor
open Go.RowKit Pure1 Pure2 Pure20 Pure21 Pure40
set_option linter.unusedSimpArgs false

def SenG (B : Nat) (w1 w : World) : Prop := Below B w1 w ∧ w1.heap.size ≤ w.heap.size
theorem SenG.alloc {B : Nat} {w1 w : World} (h : SenG B w1 w) (o : Obj) (hB : B ≤ w1.heap.size) : SenG B w1 (w.alloc o) := ⟨h.1.alloc (Nat.le_trans hB h.2) o, by simp; exact Nat.le_succ_of_le h.2⟩
theorem SenG.grown {B : Nat} {w1 w w' : World} {v : Value} {ts : List Summons} (h : SenG B w1 w) (ho : Summons.L w B v ts) (hg : w.grownBy w' v.ownBlock) (hB : B ≤ w1.heap.size) : SenG B w1 w' :=
  ⟨h.1.grown hg (Nat.le_trans hB h.2) (fun k hk => (ho.2.lt k hk).1), Nat.le_trans h.2 hg.size⟩
def SenR (B : Nat) (i : Nat) (w w' : World) : Prop := if i = 10 ∨ i = 14 then Below B w w' else if i = 4 then ∃ g, (∃ cur T, w.heap[g]? = some (.cells cur T (0, 0)) ∧ cur.size = 0) ∧ w.grownBy w' (some g) else Below w.heap.size w w'
def SenF (B b0 cap k : Nat) (ts : List Summons) (x : Summons) : Nat → Value → World → Prop
  | 0, v, w => (∃ g, v = .slice (some ⟨g, 0, none⟩) 0 0) ∧ Summons.L w B v []
  | 1, v, _ | 11, v, _ => v = .slice (some ⟨b0, 0, none⟩) ts.length cap
  | 2, v, _ | 12, v, _ => v = .int .i64 (k : Int)
  | 3, v, _ => ∃ c, v = .slice (some ⟨b0, 0, none⟩) k c
  | 4, v, w => Summons.L w B v (ts.take k)
  | 5, v, _ => v = .int .i64 x.num
  | 6, v, _ => v = .int .i64 x.sent
  | 7, v, _ => v = .int .i64 x.due
  | 8, v, _ => v = .agg #[.int .i64 x.num, .int .i64 x.sent, .int .i64 x.due, .int .i64 0, .int .i64 0]
  | 9, v, w => Summons.L w B v [⟨x.num, x.sent, x.due, 0, 0⟩]
  | 10, v, w => Summons.L w B v (ts.take k ++ [⟨x.num, x.sent, x.due, 0, 0⟩])
  | 13, v, _ => ∃ c off, v = .slice (some ⟨b0, off, none⟩) (ts.length - k) c ∧ (off = k * 5 ∨ ts.drop k = [])
  | 14, v, w | 15, v, w => Summons.L w B v (ts.take k ++ [⟨x.num, x.sent, x.due, 0, 0⟩] ++ ts.drop k)
  | _, _, _ => True
def senGone : Nat → Option Nat
  | 0 | 3 => some 4
  | 4 | 9 => some 10
  | 10 | 13 => some 14
  | 14 => some 15
  | _ => none
def senKeep (i j : Nat) : Bool := !((i == 4 && (j == 0 || j == 4)) || (i == 10 || i == 14) && (j == 0 || j == 4 || j == 9 || j == 10 || j == 14 || j == 15))
theorem vals_take9 {w : World} {b0 : Nat} {ts : List Summons} (h : Summons.ListAt w (some ⟨b0, 0, none⟩) ts) {k : Nat} (hk : k ≤ ts.length) (j : Nat) (u : Value) (hu : (Summons.vals (ts.take k))[j]? = some u) : w.cell? ((⟨b0, 0, none⟩ : Addr).add j) = some u := by
  rw [← (Summons.vals_split hk).1, List.getElem?_take] at hu
  split at hu
  · exact vals_ofM2 h rfl j u hu
  · cases hu
theorem vals_drop9 {w : World} {b0 : Nat} {ts : List Summons} (h : Summons.ListAt w (some ⟨b0, 0, none⟩) ts) {k : Nat} (hk : k ≤ ts.length) (j : Nat) (u : Value) (hu : (Summons.vals (ts.drop k))[j]? = some u) : w.cell? ((⟨b0, k * 5, none⟩ : Addr).add j) = some u := by
  rw [← (Summons.vals_split hk).2, List.getElem?_drop] at hu
  have := vals_ofM2 h rfl (k * 5 + j) u hu
  rw [Addr.add_mid] at this ⊢
  rwa [Nat.zero_add] at this
/-- behind the loop: the place -/
theorem place_at9 {ts : List Summons} {n : Int} {k : Nat} (hk : k ≤ ts.length) (h1 : ∀ (i : Nat) s, i < k → ts[i]? = some s → s.num < n) (h2 : ∀ s, ts[k]? = some s → ¬ s.num < n) : placeM ts n = k := placeM_eq ⟨hk, h1, h2⟩

set_option maxRecDepth 100000 in
set_option maxHeartbeats 8000000 in
theorem specSendSummons_any (ha : Option Addr) (hn hc : Nat) (hs : List Int) (b0 len cap : Nat) (ts : List Summons) (n d k0 : Int) (w : World) (hhl : hs.length = hn) (hhm : hn ≤ maxLen) (hh : IntsAt w ha hs) (hl : ts.length = len) (hm : len ≤ maxLen) (h : Summons.ListAt w (some ⟨b0, 0, none⟩) ts) (hcap : len ≤ cap) :
    Calls Tryd.prog 25 #[.slice ha hn hc, .slice (some ⟨b0, 0, none⟩) len cap, .int .i64 n, .int .i64 d, .int .i64 k0] w (SaysNewM (sendR hs ts n d k0).1 (sendR hs ts n d k0).2 w) := by
  have HL := Lib.hid hl; have HI := Lib.hid h
  have HH := Lib.hid (fun (W : World) (hB : Below w.heap.size w W) => specAreHol_any ha hn hc hs W hhl hhm (hh.below hB))
  have HM := Lib.hid (fun (W : World) (hB : Below w.heap.size w W) => specAreM_any (some ⟨b0, 0, none⟩) len cap ts W hl hm (h.below hB))
  have HN := Lib.hid (fun W => specIn9 n 1 1000000 W)
  have HD := Lib.hid (fun (W : World) (hB : Below w.heap.size w W) => specDeadlineOf_any ha hn hc hs d k0 W hhl hhm (hh.below hB))
  clear h hh hm hhm
  cases hb1 : hol hs
  · have HF := Lib.hid (sendR_1 (hs := hs) (ts := ts) (n := n) (d := d) (k := k0) (fun hh => by rw [hb1] at hh; cases hh.1))
    generalize sendR hs ts n d k0 = v at HF ⊢
    rw [hb1] at HH; clear hb1
    go_enter Tryd.func25, Tryd.ntmps25
    go_wp2_with fail
    refine (HH.out _ (Below.refl _ _)).mono ?_; rintro e w1 ⟨rfl, m1, hw⟩
    have HB1 := Lib.hid (show Below w.heap.size w w1 by rw [hw]; exact Go.below_drewN (Below.refl w.heap.size w) m1)
    clear hw
    go_wp2_with fail
    go_ret2
    rw [HF.out]
    exact SaysNewM.nil HB1.out
  cases hb2 : areM ts
  · have HF := Lib.hid (sendR_1 (hs := hs) (ts := ts) (n := n) (d := d) (k := k0) (fun hh => by rw [hb2] at hh; cases hh.2))
    generalize sendR hs ts n d k0 = v at HF ⊢
    rw [hb1] at HH; rw [hb2] at HM; clear hb1 hb2
    go_enter Tryd.func25, Tryd.ntmps25
    go_wp2_with fail
    refine (HH.out _ (Below.refl _ _)).mono ?_; rintro e w1 ⟨rfl, m1, hw⟩
    have HB1 := Lib.hid (show Below w.heap.size w w1 by rw [hw]; exact Go.below_drewN (Below.refl w.heap.size w) m1)
    clear hw
    go_wp2_with fail
    refine (HM.out _ HB1.out).mono ?_; rintro e w2 ⟨rfl, hB⟩
    have HB2 := Lib.hid (HB1.out.trans (hB.mono HB1.out.size)); clear hB
    go_wp2_with fail
    go_ret2
    rw [HF.out]
    exact SaysNewM.nil HB2.out
  cases hb3 : inR n 1 1000000
  · have HF := Lib.hid (sendR_2 (d := d) (k := k0) ⟨hb1, hb2⟩ hb3)
    generalize sendR hs ts n d k0 = v at HF ⊢
    rw [hb1] at HH; rw [hb2] at HM; rw [hb3] at HN; clear hb1 hb2 hb3
    go_enter Tryd.func25, Tryd.ntmps25
    go_wp2_with fail
    refine (HH.out _ (Below.refl _ _)).mono ?_; rintro e w1 ⟨rfl, m1, hw⟩
    have HB1 := Lib.hid (show Below w.heap.size w w1 by rw [hw]; exact Go.below_drewN (Below.refl w.heap.size w) m1)
    clear hw
    go_wp2_with fail
    refine (HM.out _ HB1.out).mono ?_; rintro e w2 ⟨rfl, hB⟩
    have HB2 := Lib.hid (HB1.out.trans (hB.mono HB1.out.size)); clear hB
    go_wp2_with fail
    refine (HN.out _).mono ?_; rintro e w3 ⟨rfl, hw⟩
    subst hw
    go_wp2_with fail
    go_ret2
    rw [HF.out]
    exact SaysNewM.nil HB2.out
  rcases deadR_cases hs d k0 with ⟨due, hdd, _, hday, hdue⟩ | ⟨c, hdd, hcc⟩
  rotate_left
  · have HF := Lib.hid (sendR_c ⟨hb1, hb2⟩ hb3 hdd (by omega))
    generalize sendR hs ts n d k0 = v at HF ⊢
    rw [hb1] at HH; rw [hb2] at HM; rw [hb3] at HN; rw [hdd] at HD; clear hb1 hb2 hb3 hdd
    have hc0 : (c != 0) = true := by simp; omega
    have HC := Lib.hid (show c ≠ 0 by omega)
    clear hcc
    go_enter Tryd.func25, Tryd.ntmps25
    go_wp2_with fail
    refine (HH.out _ (Below.refl _ _)).mono ?_; rintro e w1 ⟨rfl, m1, hw⟩
    have HB1 := Lib.hid (show Below w.heap.size w w1 by rw [hw]; exact Go.below_drewN (Below.refl w.heap.size w) m1)
    clear hw
    go_wp2_with fail
    refine (HM.out _ HB1.out).mono ?_; rintro e w2 ⟨rfl, hB⟩
    have HB2 := Lib.hid (HB1.out.trans (hB.mono HB1.out.size)); clear hB
    go_wp2_with fail
    refine (HN.out _).mono ?_; rintro e w3 ⟨rfl, hw⟩
    subst hw
    go_wp2_with fail
    refine (HD.out _ HB2.out).mono ?_; rintro e w4 hP
    obtain ⟨rfl, hB⟩ := hP
    have HB4 := Lib.hid (HB2.out.trans (hB.mono HB2.out.size)); clear hB
    go_wp2_with fail
    go_ret2
    rw [HF.out]
    exact SaysNewM.nil HB4.out
  have hlen : ts.length ≤ 20 := areM_len hb2
  have HF := Lib.hid (sendR_0 ⟨hb1, hb2⟩ hb3 hdd)
  generalize sendR hs ts n d k0 = v at HF ⊢
  rw [hb1] at HH; rw [hb2] at HM; rw [hb3] at HN; rw [hdd] at HD
  clear hb1 hb2 hb3 hdd hday hdue
  go_enter Tryd.func25, Tryd.ntmps25
  go_wp2_with fail
  refine (HH.out _ (Below.refl _ _)).mono ?_; rintro e w1 ⟨rfl, m1, hw⟩
  have HB1 := Lib.hid (show Below w.heap.size w w1 by rw [hw]; exact Go.below_drewN (Below.refl w.heap.size w) m1)
  clear hw
  go_wp2_with fail
  refine (HM.out _ HB1.out).mono ?_; rintro e w2 ⟨rfl, hB⟩
  have HB2 := Lib.hid (HB1.out.trans (hB.mono HB1.out.size)); clear hB
  go_wp2_with fail
  refine (HN.out _).mono ?_; rintro e w3 ⟨rfl, hw⟩
  subst hw
  go_wp2_with fail
  refine (HD.out _ HB2.out).mono ?_; rintro e w4 hP
  obtain ⟨rfl, hB⟩ := hP
  have HB4 := Lib.hid (HB2.out.trans (hB.mono HB2.out.size)); clear hB
  go_wp2_with fail
  go_loopw [14] (fun i wr => ∃ k : Nat, k ≤ len ∧ i = .int .i64 k ∧ (∀ (i : Nat) s, i < k → ts[i]? = some s → s.num < n) ∧ Below w.heap.size w wr) (fun i _ => len - (intOf i).toNat)
  case atStart => exact ⟨0, Nat.zero_le _, rfl, atPlace_zero ts n, HB4.out⟩
  case round =>
    obtain ⟨k, hk, rfl, hlow, hB⟩ := hrel
    have HLO := Lib.hid hlow; have HB := Lib.hid hB; clear hlow hB
    by_cases hmore : ∃ c, ts[k]? = some c ∧ c.num < n
    · obtain ⟨c, hc, hcn⟩ := hmore
      have hkl : k < len := by rw [← HL.out]; exact lt_of_getM hc
      obtain ⟨b, off, c', ha, hcc, hp⟩ := (HI.out.below HB.out).at HL.out hkl
      rw [hc] at hp
      obtain rfl := Option.some.inj hp
      have HX := Lib.hid (below_next HLO.out hc hcn)
      cases ha
      obtain ⟨c0, c1, c2, c3, c4⟩ := hcc
      rw [Nat.zero_add] at c0
      clear hp hc
      go_wp2_with fail
      go_roundw
      case rel => exact ⟨k + 1, by omega, by go_num, HX.out, HB.out⟩
      case measure => simp [intOf]; omega
    · have hstop : ∀ s, ts[k]? = some s → ¬ s.num < n := fun s hs h => hmore ⟨s, hs, h⟩
      have hpl := place_at9 (by rw [HL.out]; exact hk) HLO.out hstop
      have hins : insM ts ⟨n, d, due, 0, 0⟩ = ts.take k ++ [⟨n, d, due, 0, 0⟩] ++ ts.drop k := by unfold insM; rw [hpl]
      have hul : (insM ts ⟨n, d, due, 0, 0⟩).length ≤ 1000 := by rw [insM_len]; omega
      have HIr := Lib.hid (HI.out.below HB.out)
      generalize insM ts ⟨n, d, due, 0, 0⟩ = us at HF hins hul
      have HINS := Lib.hid hins.symm; have HUL := Lib.hid hul
      clear hins hul hpl hmore
      have hkl : k ≤ ts.length := by rw [HL.out]; exact hk
      by_cases hlt : k < len
      · obtain ⟨b, off, c, ha, hcc, hp⟩ := (HI.out.below HB.out).at HL.out hlt
        have hcn := hstop c hp
        have hcb : decide (c.num < n) = false := decide_eq_false hcn
        cases ha
        obtain ⟨c0, c1, c2, c3, c4⟩ := hcc
        rw [Nat.zero_add] at c0
        clear hp hcn hstop
        go_wp2_with fail
        obtain rfl := HL.out
        clear c0 c1 c2 c3 c4 hcb hlt
        refine wp_region_facts2 (sz := 71) [1, 2, 3, 12, 14] (by kernel_rfl) (by kernel_rfl) (by kernel_rfl) senGone senKeep (by kernel_rfl) (by kernel_rfl) (SenG wr.heap.size wr) (SenR wr.heap.size) (SenF wr.heap.size b0 cap k ts ⟨n, d, due, 0, 0⟩) rfl ⟨Below.drew (Below.refl _ _), Nat.le_refl _⟩ ?_ ?_ ?_
        · intro i j u w2 w3 hi hj hkp hf hR
          have hi : i < 16 := hi; have hj : j < 16 := hj
          simp only [SenR] at hR
          by_cases h7 : i = 10 ∨ i = 14
          · rw [if_pos h7] at hR
            have hj2 : ¬ (j = 0 ∨ j = 4 ∨ j = 9 ∨ j = 10 ∨ j = 14 ∨ j = 15) := by
              intro h
              have : senKeep i j = false := by rcases h7 with rfl | rfl <;> rcases h with rfl | rfl | rfl | rfl | rfl | rfl <;> rfl
              rw [this] at hkp; cases hkp
            unfold SenF at hf ⊢
            split at hf <;> first | exact hf | (exfalso; omega)
          · rw [if_neg h7] at hR
            by_cases h4 : i = 4
            · rw [if_pos h4] at hR
              subst h4
              have hj2 : ¬ (j = 0 ∨ j = 4) := by
                rintro (rfl | rfl) <;> cases hkp
              obtain ⟨g0, he, hg⟩ := hR
              unfold SenF at hf ⊢
              split at hf <;> first | exact hf | (exfalso; omega) | exact hf.other (by simp) he hg
            · rw [if_neg h4] at hR
              unfold SenF at hf ⊢
              split at hf <;> first | exact hf | exact hf.below hR | exact ⟨hf.1, hf.2.below hR⟩ | trivial
        · intro i o ho
          have hbw : ∀ W, SenG wr.heap.size wr W → wr.heap.size ≤ W.heap.size := fun W h => h.2
          have hls : ∀ W, SenG wr.heap.size wr W → Summons.ListAt W (some ⟨b0, 0, none⟩) ts := fun W h => HIr.out.below h.1
          match i, ho with
          | 0, ho =>
            cases ho
            intro ev w' hc hfn hb hG hd
            refine stepTo_gen fun K' hK => ?_
            simp [go_sem, stepTo, hc, hfn]
            exact hK _ _ ⟨hG.alloc _ (Nat.le_refl _), Summons.bx _ _, (fun h => by cases h), ⟨_, rfl⟩, ⟨_, _, rfl⟩, World.ownsRow_lit w' #[] 0 (hbw w' hG) (by decide) rfl⟩
          | 1, ho | 11, ho =>
            cases ho
            intro ev w' hc hfn hb hG hd
            have h0 : ev (.tmp 1) = .slice (some ⟨b0, 0, none⟩) ts.length cap := hb 1 (by simp)
            refine stepTo_gen fun K' hK => ?_
            simp [go_sem, stepTo, hc, hfn, h0]
            exact hK _ _ ⟨hG, Below.refl _ _, (fun h => by cases h), rfl⟩
          | 2, ho | 12, ho =>
            cases ho
            intro ev w' hc hfn hb hG hd
            have h0 : ev (.tmp 14) = .int .i64 (k : Int) := hb 14 (by simp)
            refine stepTo_gen fun K' hK => ?_
            simp [go_sem, stepTo, hc, hfn, h0]
            exact hK _ _ ⟨hG, Below.refl _ _, (fun h => by cases h), rfl⟩
          | 3, ho =>
            cases ho
            intro ev w' hc hfn hb hG hd
            have h1 : ev (.tmp 53) = .slice (some ⟨b0, 0, none⟩) ts.length cap := hd { on := 1, ground := .data } (by simp) rfl rfl _ rfl
            have h2 : ev (.tmp 54) = .int .i64 (k : Int) := hd { on := 2, ground := .data } (by simp) rfl rfl _ rfl
            have hkc : k ≤ cap := by omega
            refine stepTo_gen fun K' hK => ?_
            simp [go_sem, stepTo, hc, hfn, h1, h2, hk, hkc]
            exact hK _ _ ⟨hG, Below.refl _ _, (fun h => by cases h), _, rfl⟩
          | 4, ho =>
            cases ho
            intro ev w' hc hfn hb hG hd
            obtain ⟨⟨g0, e0⟩, h1⟩ : (∃ g0, ev (.tmp 52) = .slice (some ⟨g0, 0, none⟩) 0 0) ∧ Summons.L w' wr.heap.size (ev (.tmp 52)) [] := hd { on := 0, ground := .data } (by simp) rfl rfl _ rfl
            obtain ⟨c, h2⟩ : ∃ c, ev (.tmp 55) = .slice (some ⟨b0, 0, none⟩) k c := hd { on := 3, ground := .data } (by simp) rfl rfl _ rfl
            have hlk : (ts.take k).length = k := by rw [List.length_take]; omega
            obtain ⟨v', w'', hr, hO, hg⟩ := Summons.append_run 24 h1 ⟨b0, 0, none⟩ c (qs := ts.take k) (fun j u hu => vals_take9 (hls w' hG) hkl j u hu) (by rw [hlk]; simp; omega) (hbw w' hG)
            rw [hlk] at hr
            refine stepTo_gen fun K' hK => step_app (s := .tmp 52) (x := .tmp 55) (t := 24) rfl (by rw [h2]; exact hr) (hK _ _ ⟨hG.grown h1 hg (Nat.le_refl _), ?_, (fun h => by cases h), hO⟩)
            have hg0 : w'.grownBy w'' (some g0) := by have := hg; rw [e0] at this; exact this
            refine ⟨g0, ?_, hg0⟩
            rcases h1.2.2 with ⟨e1, _⟩ | ⟨g1, cap1, cur1, e1, _, h5, _, _, h7, _⟩
            · rw [e0] at e1; cases e1
            · rw [e0] at e1; cases e1; exact ⟨_, _, h5, by rw [h7]⟩
          | 5, ho =>
            cases ho
            intro ev w' hc hfn hb hG hd
            have h1 : ev (.tmp 2) = .int .i64 n := hb 2 (by simp)
            refine stepTo_gen fun K' hK => ?_
            simp [go_sem, stepTo, hc, hfn, h1]
            exact hK _ _ ⟨hG, Below.refl _ _, (fun h => by cases h), rfl⟩
          | 6, ho =>
            cases ho
            intro ev w' hc hfn hb hG hd
            have h1 : ev (.tmp 3) = .int .i64 d := hb 3 (by simp)
            refine stepTo_gen fun K' hK => ?_
            simp [go_sem, stepTo, hc, hfn, h1]
            exact hK _ _ ⟨hG, Below.refl _ _, (fun h => by cases h), rfl⟩
          | 7, ho =>
            cases ho
            intro ev w' hc hfn hb hG hd
            have h1 : ev (.tmp 12) = .int .i64 due := hb 12 (by simp)
            refine stepTo_gen fun K' hK => ?_
            simp [go_sem, stepTo, hc, hfn, h1]
            exact hK _ _ ⟨hG, Below.refl _ _, (fun h => by cases h), rfl⟩
          | 8, ho =>
            cases ho
            intro ev w' hc hfn hb hG hd
            have h1 : ev (.tmp 57) = .int .i64 n := hd { on := 5, ground := .data } (by simp) rfl rfl _ rfl
            have h2 : ev (.tmp 58) = .int .i64 d := hd { on := 6, ground := .data } (by simp) rfl rfl _ rfl
            have h3 : ev (.tmp 59) = .int .i64 due := hd { on := 7, ground := .data } (by simp) rfl rfl _ rfl
            refine stepTo_gen fun K' hK => ?_
            simp [go_sem, stepTo, hc, hfn, h1, h2, h3]
            exact hK _ _ ⟨hG, Below.refl _ _, (fun h => by cases h), rfl⟩
          | 9, ho =>
            cases ho
            intro ev w' hc hfn hb hG hd
            have h1 : ev (.tmp 60) = .agg #[.int .i64 n, .int .i64 d, .int .i64 due, .int .i64 0, .int .i64 0] := hd { on := 8, ground := .data } (by simp) rfl rfl _ rfl
            refine stepTo_gen fun K' hK => ?_
            simp [go_sem, stepTo, hc, hfn, h1]
            exact hK _ _ ⟨hG.alloc _ (Nat.le_refl _), Summons.bx _ _, (fun h => by cases h), ⟨_, _, rfl⟩, World.ownsRow_lit w' #[.int .i64 n, .int .i64 d, .int .i64 due, .int .i64 0, .int .i64 0] 1 (hbw w' hG) (by decide) rfl⟩
          | 10, ho =>
            cases ho
            intro ev w' hc hfn hb hG hd
            have h1 : Summons.L w' wr.heap.size (ev (.tmp 56)) (ts.take k) := hd { on := 4, ground := .data } (by simp) rfl rfl _ rfl
            have h2 : Summons.L w' wr.heap.size (ev (.tmp 61)) [⟨n, d, due, 0, 0⟩] := hd { on := 9, ground := .data } (by simp) rfl rfl _ rfl
            obtain ⟨g2, c2, e2⟩ := h2.1
            rw [e2] at h2
            obtain ⟨v', w'', hr, hO, hg⟩ := Summons.append_run 24 h1 ⟨g2, 0, none⟩ c2 (qs := [⟨n, d, due, 0, 0⟩]) (fun j u hu => by rw [Addr.add_mid, Nat.zero_add]; exact h2.cell hu) (by rw [List.length_take]; simp; omega) (hbw w' hG)
            have e2' : ev (.tmp 61) = .slice (some ⟨g2, 0, none⟩) 1 c2 := e2
            have hr' : (Builtin.append_ #[24, 24] 24 #[ev (.tmp 56), .slice (some ⟨g2, 0, none⟩) 1 c2]).run Tryd.prog w' = .ok v' w'' := hr
            refine stepTo_gen fun K' hK => step_app (s := .tmp 56) (x := .tmp 61) (t := 24) rfl (by rw [e2']; exact hr') ?_
            exact hK _ _ ⟨hG.grown h1 hg (Nat.le_refl _), (Below.refl _ _).grown hg (hbw w' hG) (fun j hj => (h1.2.lt j hj).1), (fun h => by cases h), hO⟩
          | 13, ho =>
            cases ho
            intro ev w' hc hfn hb hG hd
            have h1 : ev (.tmp 63) = .slice (some ⟨b0, 0, none⟩) ts.length cap := hd { on := 11, ground := .data } (by simp) rfl rfl _ rfl
            have h2 : ev (.tmp 64) = .int .i64 (k : Int) := hd { on := 12, ground := .data } (by simp) rfl rfl _ rfl
            have hkc : k ≤ cap := by omega
            by_cases hck : cap = k
            · have hdn : ts.drop k = [] := List.drop_of_length_le (by omega)
              refine stepTo_gen fun K' hK => ?_
              simp [go_sem, stepTo, hc, hfn, h1, h2, hkl, hkc, hck]
              exact hK _ _ ⟨hG, Below.refl _ _, (fun h => by cases h), _, _, rfl, .inr hdn⟩
            · refine stepTo_gen fun K' hK => ?_
              simp [go_sem, stepTo, hc, hfn, h1, h2, hkl, hkc, hck]
              exact hK _ _ ⟨hG, Below.refl _ _, (fun h => by cases h), _, _, rfl, .inl rfl⟩
          | 14, ho =>
            cases ho
            intro ev w' hc hfn hb hG hd
            have h1 : Summons.L w' wr.heap.size (ev (.tmp 62)) (ts.take k ++ [⟨n, d, due, 0, 0⟩]) := hd { on := 10, ground := .data } (by simp) rfl rfl _ rfl
            obtain ⟨c, off, h2, hoff⟩ : ∃ c off, ev (.tmp 65) = .slice (some ⟨b0, off, none⟩) (ts.length - k) c ∧ (off = k * 5 ∨ ts.drop k = []) := hd { on := 13, ground := .data } (by simp) rfl rfl _ rfl
            have hlk : (ts.drop k).length = ts.length - k := List.length_drop
            obtain ⟨v', w'', hr, hO, hg⟩ := Summons.append_run 24 h1 ⟨b0, off, none⟩ c (qs := ts.drop k) (fun j u hu => by
              rcases hoff with rfl | hoff
              case inr => rw [hoff] at hu; simp [Summons.vals] at hu
              exact vals_drop9 (hls w' hG) hkl j u hu) (by simp only [List.length_append, List.length_take, List.length_drop, List.length_singleton]; omega) (hbw w' hG)
            rw [hlk] at hr
            refine stepTo_gen fun K' hK => step_app (s := .tmp 62) (x := .tmp 65) (t := 24) rfl (by rw [h2]; exact hr) ?_
            exact hK _ _ ⟨hG.grown h1 hg (Nat.le_refl _), (Below.refl _ _).grown hg (hbw w' hG) (fun j hj => (h1.2.lt j hj).1), (fun h => by cases h), hO⟩
          | 15, ho =>
            cases ho
            intro ev w' hc hfn hb hG hd
            have h1 : Summons.L w' wr.heap.size (ev (.tmp 66)) (ts.take k ++ [⟨n, d, due, 0, 0⟩] ++ ts.drop k) := hd { on := 14, ground := .data } (by simp) rfl rfl _ rfl
            refine stepTo_gen fun K' hK => ?_
            simp [go_sem, stepTo, hc, hfn]
            exact hK _ _ ⟨hG, Below.refl _ _, (fun h => by cases h), h1⟩
          | m + 16, ho => simp at ho
        · intro a w' hb hs hdf hG hf
          have h6 : Summons.L w' wr.heap.size (a.eval (.tmp 15)) (ts.take k ++ [⟨n, d, due, 0, 0⟩] ++ ts.drop k) := hf 15 _ rfl rfl
          rw [HINS.out] at h6
          obtain ⟨g, cap2, hv⟩ := h6.1
          rw [hv] at h6
          obtain ⟨⟨ls⟩, dfs⟩ := a
          simp only at hdf
          subst hdf
          have hs : ls.length = 71 := by simpa using hs
          have hv' : (⟨ls⟩ : Array Value).getD 15 undef = .slice (some ⟨g, 0, none⟩) us.length cap2 := hv
          have HL6 := Lib.hid h6; have HB6 := Lib.hid (HB.out.trans (hG.1.mono HB.out.size))
          have HT := Lib.hid (specAreM_any (some ⟨g, 0, none⟩) us.length cap2 us w' rfl (by have := HUL.out; unfold maxLen; omega) HL6.out.reads)
          clear hf hb hG h6 hv
          match ls, hs with
          | x0 :: x1 :: x2 :: x3 :: x4 :: x5 :: x6 :: x7 :: x8 :: x9 :: x10 :: x11 :: x12 :: x13 :: x14 :: x15 :: x16 :: x17 :: x18 :: x19 :: x20 :: x21 :: x22 :: x23 :: x24 :: x25 :: x26 :: x27 :: x28 :: x29 :: x30 :: x31 :: x32 :: x33 :: x34 :: x35 :: x36 :: x37 :: x38 :: x39 :: x40 :: x41 :: x42 :: x43 :: x44 :: x45 :: x46 :: x47 :: x48 :: x49 :: x50 :: x51 :: x52 :: x53 :: x54 :: x55 :: x56 :: x57 :: x58 :: x59 :: x60 :: x61 :: x62 :: x63 :: x64 :: x65 :: x66 :: x67 :: x68 :: x69 :: x70 :: [], _ =>
            have e15 : x15 = .slice (some ⟨g, 0, none⟩) us.length cap2 := hv'
            subst e15
            clear hv'
            cases hbu : areM us
            · rw [hbu] at HT HF
              clear hbu
              go_wp2_with fail
              refine HT.out.mono ?_; rintro e w2 ⟨rfl, hB⟩
              have HB7 := Lib.hid (HB6.out.trans (hB.mono HB6.out.size)); clear hB
              go_wp2_with fail
              go_ret2
              rw [HF.out]
              exact SaysNewM.nil HB7.out
            · rw [hbu] at HT HF
              clear hbu
              go_wp2_with fail
              refine HT.out.mono ?_; rintro e w2 ⟨rfl, hB⟩
              have HB7 := Lib.hid (HB6.out.trans (hB.mono HB6.out.size)); have HL7 := Lib.hid ((HL6.out.below hB).base HB.out.size); clear hB
              obtain ⟨a7, cap7, he7, ho7⟩ := HL7.out.own
              cases he7
              have HO7 := Lib.hid ho7
              clear ho7
              go_wp2_with fail
              go_ret2
              rw [HF.out]
              exact ⟨_, _, rfl, HO7.out, HB7.out⟩
      · clear hstop
        go_wp2_with fail
        obtain rfl := HL.out
        clear hlt
        refine wp_region_facts2 (sz := 71) [1, 2, 3, 12, 14] (by kernel_rfl) (by kernel_rfl) (by kernel_rfl) senGone senKeep (by kernel_rfl) (by kernel_rfl) (SenG wr.heap.size wr) (SenR wr.heap.size) (SenF wr.heap.size b0 cap k ts ⟨n, d, due, 0, 0⟩) rfl ⟨Below.drew (Below.refl _ _), Nat.le_refl _⟩ ?_ ?_ ?_
        · intro i j u w2 w3 hi hj hkp hf hR
          have hi : i < 16 := hi; have hj : j < 16 := hj
          simp only [SenR] at hR
          by_cases h7 : i = 10 ∨ i = 14
          · rw [if_pos h7] at hR
            have hj2 : ¬ (j = 0 ∨ j = 4 ∨ j = 9 ∨ j = 10 ∨ j = 14 ∨ j = 15) := by
              intro h
              have : senKeep i j = false := by rcases h7 with rfl | rfl <;> rcases h with rfl | rfl | rfl | rfl | rfl | rfl <;> rfl
              rw [this] at hkp; cases hkp
            unfold SenF at hf ⊢
            split at hf <;> first | exact hf | (exfalso; omega)
          · rw [if_neg h7] at hR
            by_cases h4 : i = 4
            · rw [if_pos h4] at hR
              subst h4
              have hj2 : ¬ (j = 0 ∨ j = 4) := by
                rintro (rfl | rfl) <;> cases hkp
              obtain ⟨g0, he, hg⟩ := hR
              unfold SenF at hf ⊢
              split at hf <;> first | exact hf | (exfalso; omega) | exact hf.other (by simp) he hg
            · rw [if_neg h4] at hR
              unfold SenF at hf ⊢
              split at hf <;> first | exact hf | exact hf.below hR | exact ⟨hf.1, hf.2.below hR⟩ | trivial
        · intro i o ho
          have hbw : ∀ W, SenG wr.heap.size wr W → wr.heap.size ≤ W.heap.size := fun W h => h.2
          have hls : ∀ W, SenG wr.heap.size wr W → Summons.ListAt W (some ⟨b0, 0, none⟩) ts := fun W h => HIr.out.below h.1
          match i, ho with
          | 0, ho =>
            cases ho
            intro ev w' hc hfn hb hG hd
            refine stepTo_gen fun K' hK => ?_
            simp [go_sem, stepTo, hc, hfn]
            exact hK _ _ ⟨hG.alloc _ (Nat.le_refl _), Summons.bx _ _, (fun h => by cases h), ⟨_, rfl⟩, ⟨_, _, rfl⟩, World.ownsRow_lit w' #[] 0 (hbw w' hG) (by decide) rfl⟩
          | 1, ho | 11, ho =>
            cases ho
            intro ev w' hc hfn hb hG hd
            have h0 : ev (.tmp 1) = .slice (some ⟨b0, 0, none⟩) ts.length cap := hb 1 (by simp)
            refine stepTo_gen fun K' hK => ?_
            simp [go_sem, stepTo, hc, hfn, h0]
            exact hK _ _ ⟨hG, Below.refl _ _, (fun h => by cases h), rfl⟩
          | 2, ho | 12, ho =>
            cases ho
            intro ev w' hc hfn hb hG hd
            have h0 : ev (.tmp 14) = .int .i64 (k : Int) := hb 14 (by simp)
            refine stepTo_gen fun K' hK => ?_
            simp [go_sem, stepTo, hc, hfn, h0]
            exact hK _ _ ⟨hG, Below.refl _ _, (fun h => by cases h), rfl⟩
          | 3, ho =>
            cases ho
            intro ev w' hc hfn hb hG hd
            have h1 : ev (.tmp 53) = .slice (some ⟨b0, 0, none⟩) ts.length cap := hd { on := 1, ground := .data } (by simp) rfl rfl _ rfl
            have h2 : ev (.tmp 54) = .int .i64 (k : Int) := hd { on := 2, ground := .data } (by simp) rfl rfl _ rfl
            have hkc : k ≤ cap := by omega
            refine stepTo_gen fun K' hK => ?_
            simp [go_sem, stepTo, hc, hfn, h1, h2, hk, hkc]
            exact hK _ _ ⟨hG, Below.refl _ _, (fun h => by cases h), _, rfl⟩
          | 4, ho =>
            cases ho
            intro ev w' hc hfn hb hG hd
            obtain ⟨⟨g0, e0⟩, h1⟩ : (∃ g0, ev (.tmp 52) = .slice (some ⟨g0, 0, none⟩) 0 0) ∧ Summons.L w' wr.heap.size (ev (.tmp 52)) [] := hd { on := 0, ground := .data } (by simp) rfl rfl _ rfl
            obtain ⟨c, h2⟩ : ∃ c, ev (.tmp 55) = .slice (some ⟨b0, 0, none⟩) k c := hd { on := 3, ground := .data } (by simp) rfl rfl _ rfl
            have hlk : (ts.take k).length = k := by rw [List.length_take]; omega
            obtain ⟨v', w'', hr, hO, hg⟩ := Summons.append_run 24 h1 ⟨b0, 0, none⟩ c (qs := ts.take k) (fun j u hu => vals_take9 (hls w' hG) hkl j u hu) (by rw [hlk]; simp; omega) (hbw w' hG)
            rw [hlk] at hr
            refine stepTo_gen fun K' hK => step_app (s := .tmp 52) (x := .tmp 55) (t := 24) rfl (by rw [h2]; exact hr) (hK _ _ ⟨hG.grown h1 hg (Nat.le_refl _), ?_, (fun h => by cases h), hO⟩)
            have hg0 : w'.grownBy w'' (some g0) := by have := hg; rw [e0] at this; exact this
            refine ⟨g0, ?_, hg0⟩
            rcases h1.2.2 with ⟨e1, _⟩ | ⟨g1, cap1, cur1, e1, _, h5, _, _, h7, _⟩
            · rw [e0] at e1; cases e1
            · rw [e0] at e1; cases e1; exact ⟨_, _, h5, by rw [h7]⟩
          | 5, ho =>
            cases ho
            intro ev w' hc hfn hb hG hd
            have h1 : ev (.tmp 2) = .int .i64 n := hb 2 (by simp)
            refine stepTo_gen fun K' hK => ?_
            simp [go_sem, stepTo, hc, hfn, h1]
            exact hK _ _ ⟨hG, Below.refl _ _, (fun h => by cases h), rfl⟩
          | 6, ho =>
            cases ho
            intro ev w' hc hfn hb hG hd
            have h1 : ev (.tmp 3) = .int .i64 d := hb 3 (by simp)
            refine stepTo_gen fun K' hK => ?_
            simp [go_sem, stepTo, hc, hfn, h1]
            exact hK _ _ ⟨hG, Below.refl _ _, (fun h => by cases h), rfl⟩
          | 7, ho =>
            cases ho
            intro ev w' hc hfn hb hG hd
            have h1 : ev (.tmp 12) = .int .i64 due := hb 12 (by simp)
            refine stepTo_gen fun K' hK => ?_
            simp [go_sem, stepTo, hc, hfn, h1]
            exact hK _ _ ⟨hG, Below.refl _ _, (fun h => by cases h), rfl⟩
          | 8, ho =>
            cases ho
            intro ev w' hc hfn hb hG hd
            have h1 : ev (.tmp 57) = .int .i64 n := hd { on := 5, ground := .data } (by simp) rfl rfl _ rfl
            have h2 : ev (.tmp 58) = .int .i64 d := hd { on := 6, ground := .data } (by simp) rfl rfl _ rfl
            have h3 : ev (.tmp 59) = .int .i64 due := hd { on := 7, ground := .data } (by simp) rfl rfl _ rfl
            refine stepTo_gen fun K' hK => ?_
            simp [go_sem, stepTo, hc, hfn, h1, h2, h3]
            exact hK _ _ ⟨hG, Below.refl _ _, (fun h => by cases h), rfl⟩
          | 9, ho =>
            cases ho
            intro ev w' hc hfn hb hG hd
            have h1 : ev (.tmp 60) = .agg #[.int .i64 n, .int .i64 d, .int .i64 due, .int .i64 0, .int .i64 0] := hd { on := 8, ground := .data } (by simp) rfl rfl _ rfl
            refine stepTo_gen fun K' hK => ?_
            simp [go_sem, stepTo, hc, hfn, h1]
            exact hK _ _ ⟨hG.alloc _ (Nat.le_refl _), Summons.bx _ _, (fun h => by cases h), ⟨_, _, rfl⟩, World.ownsRow_lit w' #[.int .i64 n, .int .i64 d, .int .i64 due, .int .i64 0, .int .i64 0] 1 (hbw w' hG) (by decide) rfl⟩
          | 10, ho =>
            cases ho
            intro ev w' hc hfn hb hG hd
            have h1 : Summons.L w' wr.heap.size (ev (.tmp 56)) (ts.take k) := hd { on := 4, ground := .data } (by simp) rfl rfl _ rfl
            have h2 : Summons.L w' wr.heap.size (ev (.tmp 61)) [⟨n, d, due, 0, 0⟩] := hd { on := 9, ground := .data } (by simp) rfl rfl _ rfl
            obtain ⟨g2, c2, e2⟩ := h2.1
            rw [e2] at h2
            obtain ⟨v', w'', hr, hO, hg⟩ := Summons.append_run 24 h1 ⟨g2, 0, none⟩ c2 (qs := [⟨n, d, due, 0, 0⟩]) (fun j u hu => by rw [Addr.add_mid, Nat.zero_add]; exact h2.cell hu) (by rw [List.length_take]; simp; omega) (hbw w' hG)
            have e2' : ev (.tmp 61) = .slice (some ⟨g2, 0, none⟩) 1 c2 := e2
            have hr' : (Builtin.append_ #[24, 24] 24 #[ev (.tmp 56), .slice (some ⟨g2, 0, none⟩) 1 c2]).run Tryd.prog w' = .ok v' w'' := hr
            refine stepTo_gen fun K' hK => step_app (s := .tmp 56) (x := .tmp 61) (t := 24) rfl (by rw [e2']; exact hr') ?_
            exact hK _ _ ⟨hG.grown h1 hg (Nat.le_refl _), (Below.refl _ _).grown hg (hbw w' hG) (fun j hj => (h1.2.lt j hj).1), (fun h => by cases h), hO⟩
          | 13, ho =>
            cases ho
            intro ev w' hc hfn hb hG hd
            have h1 : ev (.tmp 63) = .slice (some ⟨b0, 0, none⟩) ts.length cap := hd { on := 11, ground := .data } (by simp) rfl rfl _ rfl
            have h2 : ev (.tmp 64) = .int .i64 (k : Int) := hd { on := 12, ground := .data } (by simp) rfl rfl _ rfl
            have hkc : k ≤ cap := by omega
            by_cases hck : cap = k
            · have hdn : ts.drop k = [] := List.drop_of_length_le (by omega)
              refine stepTo_gen fun K' hK => ?_
              simp [go_sem, stepTo, hc, hfn, h1, h2, hkl, hkc, hck]
              exact hK _ _ ⟨hG, Below.refl _ _, (fun h => by cases h), _, _, rfl, .inr hdn⟩
            · refine stepTo_gen fun K' hK => ?_
              simp [go_sem, stepTo, hc, hfn, h1, h2, hkl, hkc, hck]
              exact hK _ _ ⟨hG, Below.refl _ _, (fun h => by cases h), _, _, rfl, .inl rfl⟩
          | 14, ho =>
            cases ho
            intro ev w' hc hfn hb hG hd
            have h1 : Summons.L w' wr.heap.size (ev (.tmp 62)) (ts.take k ++ [⟨n, d, due, 0, 0⟩]) := hd { on := 10, ground := .data } (by simp) rfl rfl _ rfl
            obtain ⟨c, off, h2, hoff⟩ : ∃ c off, ev (.tmp 65) = .slice (some ⟨b0, off, none⟩) (ts.length - k) c ∧ (off = k * 5 ∨ ts.drop k = []) := hd { on := 13, ground := .data } (by simp) rfl rfl _ rfl
            have hlk : (ts.drop k).length = ts.length - k := List.length_drop
            obtain ⟨v', w'', hr, hO, hg⟩ := Summons.append_run 24 h1 ⟨b0, off, none⟩ c (qs := ts.drop k) (fun j u hu => by
              rcases hoff with rfl | hoff
              case inr => rw [hoff] at hu; simp [Summons.vals] at hu
              exact vals_drop9 (hls w' hG) hkl j u hu) (by simp only [List.length_append, List.length_take, List.length_drop, List.length_singleton]; omega) (hbw w' hG)
            rw [hlk] at hr
            refine stepTo_gen fun K' hK => step_app (s := .tmp 62) (x := .tmp 65) (t := 24) rfl (by rw [h2]; exact hr) ?_
            exact hK _ _ ⟨hG.grown h1 hg (Nat.le_refl _), (Below.refl _ _).grown hg (hbw w' hG) (fun j hj => (h1.2.lt j hj).1), (fun h => by cases h), hO⟩
          | 15, ho =>
            cases ho
            intro ev w' hc hfn hb hG hd
            have h1 : Summons.L w' wr.heap.size (ev (.tmp 66)) (ts.take k ++ [⟨n, d, due, 0, 0⟩] ++ ts.drop k) := hd { on := 14, ground := .data } (by simp) rfl rfl _ rfl
            refine stepTo_gen fun K' hK => ?_
            simp [go_sem, stepTo, hc, hfn]
            exact hK _ _ ⟨hG, Below.refl _ _, (fun h => by cases h), h1⟩
          | m + 16, ho => simp at ho
        · intro a w' hb hs hdf hG hf
          have h6 : Summons.L w' wr.heap.size (a.eval (.tmp 15)) (ts.take k ++ [⟨n, d, due, 0, 0⟩] ++ ts.drop k) := hf 15 _ rfl rfl
          rw [HINS.out] at h6
          obtain ⟨g, cap2, hv⟩ := h6.1
          rw [hv] at h6
          obtain ⟨⟨ls⟩, dfs⟩ := a
          simp only at hdf
          subst hdf
          have hs : ls.length = 71 := by simpa using hs
          have hv' : (⟨ls⟩ : Array Value).getD 15 undef = .slice (some ⟨g, 0, none⟩) us.length cap2 := hv
          have HL6 := Lib.hid h6; have HB6 := Lib.hid (HB.out.trans (hG.1.mono HB.out.size))
          have HT := Lib.hid (specAreM_any (some ⟨g, 0, none⟩) us.length cap2 us w' rfl (by have := HUL.out; unfold maxLen; omega) HL6.out.reads)
          clear hf hb hG h6 hv
          match ls, hs with
          | x0 :: x1 :: x2 :: x3 :: x4 :: x5 :: x6 :: x7 :: x8 :: x9 :: x10 :: x11 :: x12 :: x13 :: x14 :: x15 :: x16 :: x17 :: x18 :: x19 :: x20 :: x21 :: x22 :: x23 :: x24 :: x25 :: x26 :: x27 :: x28 :: x29 :: x30 :: x31 :: x32 :: x33 :: x34 :: x35 :: x36 :: x37 :: x38 :: x39 :: x40 :: x41 :: x42 :: x43 :: x44 :: x45 :: x46 :: x47 :: x48 :: x49 :: x50 :: x51 :: x52 :: x53 :: x54 :: x55 :: x56 :: x57 :: x58 :: x59 :: x60 :: x61 :: x62 :: x63 :: x64 :: x65 :: x66 :: x67 :: x68 :: x69 :: x70 :: [], _ =>
            have e15 : x15 = .slice (some ⟨g, 0, none⟩) us.length cap2 := hv'
            subst e15
            clear hv'
            cases hbu : areM us
            · rw [hbu] at HT HF
              clear hbu
              go_wp2_with fail
              refine HT.out.mono ?_; rintro e w2 ⟨rfl, hB⟩
              have HB7 := Lib.hid (HB6.out.trans (hB.mono HB6.out.size)); clear hB
              go_wp2_with fail
              go_ret2
              rw [HF.out]
              exact SaysNewM.nil HB7.out
            · rw [hbu] at HT HF
              clear hbu
              go_wp2_with fail
              refine HT.out.mono ?_; rintro e w2 ⟨rfl, hB⟩
              have HB7 := Lib.hid (HB6.out.trans (hB.mono HB6.out.size)); have HL7 := Lib.hid ((HL6.out.below hB).base HB.out.size); clear hB
              obtain ⟨a7, cap7, he7, ho7⟩ := HL7.out.own
              cases he7
              have HO7 := Lib.hid ho7
              clear ho7
              go_wp2_with fail
              go_ret2
              rw [HF.out]
              exact ⟨_, _, rfl, HO7.out, HB7.out⟩
end Go.Proofs.YtchffaohmeaccaaDoor
