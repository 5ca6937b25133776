/- Merged: the texts HolI Spec95 Impl9g Law9 DoorH, in their order. -/
import Derived.Test.YtmnaacgeapldeaaDoorChecked
import Derived.Test.YtmnaacgeapldeaaDoorBase
import Derived.Test.YtmnaacgeapldeaaDoorInfo
import Derived.Test.YtmnaacgeapldeaaDoorMarkI
import Derived.Test.YtmnaacgeapldeaaDoorSummonsM
import Derived.WalkKit
import Derived.WalkSpells
import Derived.WalkLawsBesides
import Derived.Lib.Hide
import Derived.Lib.QuietBelow
import Derived.Deep.OwnRows
import Derived.Test.YtmnaacgeapldeaaDoorPure2
import Derived.Test.YtmnaacgeapldeaaDoorPure20
import Derived.Test.YtmnaacgeapldeaaDoorPure21
import Derived.Test.YtmnaacgeapldeaaDoorPure40
import Derived.Test.YtmnaacgeapldeaaDoorSummonsA
import Derived.Test.YtmnaacgeapldeaaDoorSummonsB
import Derived.Test.YtmnaacgeapldeaaDoorSummonsC
import Derived.Test.YtmnaacgeapldeaaDoorSummonsD
import Derived.Test.YtmnaacgeapldeaaDoorPure90
import Derived.Test.YtmnaacgeapldeaaDoorPure91
import Derived.Test.YtmnaacgeapldeaaDoorSpec90
import Derived.Test.YtmnaacgeapldeaaDoorDay2
import Derived.Test.YtmnaacgeapldeaaDoorDay5
import Derived.Test.YtmnaacgeapldeaaDoorSet9
import Derived.Test.YtmnaacgeapldeaaDoorCopy9
import Derived.Test.YtmnaacgeapldeaaDoorFacts2
import Derived.Test.YtmnaacgeapldeaaDoorStepApp
import Derived.IntWalk
import Derived.Deep.QuietTactic
import Derived.BigQuiet
import Derived.BigRegion
import Derived.OwnWalk
import Derived.RegionTactic
import Derived.Outline
import Derived.Test.YtmnaacgeapldeaaDoorAsR
import Derived.Test.YtmnaacgeapldeaaDoorPersNum
import Derived.Test.YtmnaacgeapldeaaDoorImpl9a
import Derived.Test.YtmnaacgeapldeaaDoorImpl9b
import Derived.Test.YtmnaacgeapldeaaDoorImpl9c
import Derived.Test.YtmnaacgeapldeaaDoorFind9
import Derived.Test.YtmnaacgeapldeaaDoorImpl9f
import Derived.Test.YtmnaacgeapldeaaDoorIns9b
import Derived.Test.YtmnaacgeapldeaaDoorEqInt
import Derived.Test.YtmnaacgeapldeaaDoorIntL
import Derived.Test.YtmnaacgeapldeaaDoorBuildI
import Derived.Test.YtmnaacgeapldeaaDoorSpec92
import Derived.Test.YtmnaacgeapldeaaDoorSpec93
import Derived.Test.YtmnaacgeapldeaaDoorRows
import Derived.LaidLaws
import Derived.LaidHandle
import Derived.RowKitTokens
/- A list of numbers that a law lays and marks: it lies in a row of its own, and only that row turns. -/
namespace Go.Proofs.YtmnaacgeapldeaaDoor
open Go.RowKit Pure2

/-- a copy in a row of its own -/
def IsOwnCopy (w : World) (len : Nat) (zs : List Int) (e : Ending) (w' : World) : Prop :=
  ∃ b, e = .returned (.slice (some ⟨b, 0, none⟩) len len) ∧ w.heap.size ≤ b ∧ b < w'.heap.size ∧ OwnI w.heap.size w' (some ⟨b, 0, none⟩) len (fun i => zs.getD i 0) ∧ Below w.heap.size w w'
set_option maxHeartbeats 400000 in
theorem toInt64S_own (a : Option Addr) (len cap : Nat) (zs : List Int) (w : World) (hl : zs.length = len) (hm : len ≤ 1048576) (h : IntsAt w a zs) :
    Calls Tryd.prog 26 #[.slice a len cap] w (IsOwnCopy w len zs) := by
  have HL := Lib.hid hl; clear hl
  have HI := Lib.hid h; clear h
  have hmk := run_make_row' (P := Tryd.prog) 27 2 (.int .i64 0) 8 Tryd.underlying27 Tryd.info_i64 rfl .i64 .i64 len (by omega) (by omega)
  go_enter Tryd.func26, Tryd.ntmps26
  go_wp2
  go_loopw [4] (fun i wr => ∃ k : Nat, k ≤ len ∧ i = .int .i64 k ∧ Below w.heap.size w wr ∧ ∃ f, wr.rowIs w.heap.size 2 len f ∧ ∀ i x, i < k → zs[i]? = some x → f i = .int .i64 x) (fun i _ => len - (intOf i).toNat)
  case atStart => exact ⟨0, Nat.zero_le _, rfl, (Below.refl _ _).alloc (Nat.le_refl _) _, _, World.rowIs_made _ _ _ _, fun i x hi => by omega⟩
  case round =>
    obtain ⟨k, hk, rfl, hB, f, hr, hf⟩ := hrel
    have HB := Lib.hid hB; have HR := Lib.hid hr; have HF := Lib.hid hf; clear hB hr hf
    by_cases hlt : k < len
    · obtain ⟨b, off, x, ha, hc, ht, hx⟩ := (HI.out.below HB.out).at HL.out hlt
      have HX := Lib.hid hx; clear hx ht
      have hc2 := HR.out.cell hlt
      have hf2 := HR.out.frozen k
      subst ha
      go_wp2
      go_roundw
      case rel => exact ⟨k + 1, by omega, by go_num, HB.out.setCell (Nat.le_refl _) _, _, HR.out.set _ _, copy_step HF.out HX.out⟩
      case measure => simp [intOf]; omega
    · go_wp2
      go_ret
      exact ⟨_, rfl, Nat.le_refl _, HR.out.lt, .inr ⟨_, _, len, rfl, Nat.le_refl _, Nat.le_refl _, HR.out, fun i hi => HF.out i _ (by omega) (by rw [List.getElem?_eq_getElem (by rw [HL.out]; exact hi)]; simp [List.getD, List.getElem?_eq_getElem (show i < zs.length by rw [HL.out]; exact hi)])⟩, HB.out⟩


theorem grown_set9 {w0 w : World} {b k : Nat} {v : Value} (h : w0.grownBy w (some b)) : w0.grownBy (w.setCell ⟨b, k, none⟩ v) (some b) := Summons.mtrans h (Summons.mcell _ _ _ _)
/-- marked; only the slice's own block has turned -/
def MarkedG (B : Nat) (a : Option Addr) (len : Nat) (k : Int) (w : World) (e : Ending) (w' : World) : Prop :=
  e = .returned (.int .i64 (k + len)) ∧ OwnI B w' a len (fun i => k + i) ∧ Below B w w' ∧ (w' = w ∨ ∃ b, a = some ⟨b, 0, none⟩ ∧ w.grownBy w' (some b))
set_option maxRecDepth 100000 in
set_option maxHeartbeats 400000 in
theorem markInt64S_grown (B : Nat) (a : Option Addr) (len cap : Nat) (g : Nat → Int) (k : Int) (w : World) (hl : len ≤ 1000000000) (h0 : 0 < k) (h1 : k ≤ 1000000000) (h : OwnI B w a len g) :
    Calls Tryd.prog 31 #[.slice a len cap, .int .i64 k] w (MarkedG B a len k w) := by
  rcases h with rfl | ⟨b, f, N, rfl, hb, hN, hr, hf⟩
  · go_enter Tryd.func31, Tryd.ntmps31
    go_wp2
    go_loopw [1, 5] (fun kk i wr => i = .int .i64 0 ∧ kk = .int .i64 k ∧ wr = w) (fun _ _ _ => 0)
    case atStart => exact ⟨rfl, rfl, rfl⟩
    case round =>
      obtain ⟨rfl, rfl, rfl⟩ := hrel
      go_wp2
      go_ret
      exact ⟨ret_i64 (by simp), .inl rfl, Below.refl _ _, .inl rfl⟩
  · have HR := Lib.hid hr; clear hr hf
    go_enter Tryd.func31, Tryd.ntmps31
    go_wp2
    go_loopw [1, 5] (fun kk i wr => ∃ n : Nat, n ≤ len ∧ i = .int .i64 n ∧ kk = .int .i64 (k + n) ∧ w.grownBy wr (some b) ∧ Below B w wr ∧ ∃ f, wr.rowIs b 2 N f ∧ ∀ i, i < n → f i = .int .i64 (k + i)) (fun _ i _ => len - (intOf i).toNat)
    case atStart => exact ⟨0, Nat.zero_le _, rfl, by simp, ⟨rfl, rfl, rfl, Nat.le_refl _, fun _ _ _ => rfl⟩, Below.refl _ _, _, HR.out, fun i hi => by omega⟩
    case round =>
      obtain ⟨n, hn, rfl, rfl, hsz, hW, f, hr, hf⟩ := hrel
      have HG := Lib.hid hsz; have HW := Lib.hid hW; have HR := Lib.hid hr; have HF := Lib.hid hf; clear hsz hW hr hf
      by_cases hlt : n < len
      · have hc2 := HR.out.cell (Nat.lt_of_lt_of_le hlt hN)
        have hf2 := HR.out.frozen n
        go_wp2_with fail
        go_roundw
        case rel => exact ⟨n + 1, by omega, by go_num, by rw [show k + (n : Int) + 1 = k + ((n + 1 : Nat) : Int) by omega], grown_set9 HG.out, HW.out.setCell hb _, _, HR.out.set _ _, markI_step HF.out⟩
        case measure => simp [intOf]; omega
      · have HN := Lib.hid (show n = len by omega)
        go_wp2
        go_ret
        exact ⟨ret_i64 (by rw [HN.out]), .inr ⟨b, f, N, rfl, hb, hN, HR.out, fun i hi => HF.out i (by rw [HN.out]; exact hi)⟩, HW.out, .inr ⟨b, rfl, HG.out⟩⟩

end Go.Proofs.YtmnaacgeapldeaaDoor
/- Contract of chapter 9's model: sending a summons. (written by impl9.py) -/
namespace Go.Proofs.YtmnaacgeapldeaaDoor
open Go.RowKit Pure1 Pure2 Pure20 Pure21 Pure40
set_option linter.unusedSimpArgs false

def SenG (B : Nat) (w1 w : World) : Prop := Below B w1 w ∧ w1.heap.size ≤ w.heap.size
theorem SenG.alloc {B : Nat} {w1 w : World} (h : SenG B w1 w) (o : Obj) (hB : B ≤ w1.heap.size) : SenG B w1 (w.alloc o) := ⟨h.1.alloc (Nat.le_trans hB h.2) o, by simp; exact Nat.le_succ_of_le h.2⟩
theorem SenG.grown {B : Nat} {w1 w w' : World} {v : Value} {ts : List Summons} (h : SenG B w1 w) (ho : Summons.L w B v ts) (hg : w.grownBy w' v.ownBlock) (hB : B ≤ w1.heap.size) : SenG B w1 w' :=
  ⟨h.1.grown hg (Nat.le_trans hB h.2) (fun k hk => (ho.2.lt k hk).1), Nat.le_trans h.2 hg.size⟩
def SenR (B : Nat) (i : Nat) (w w' : World) : Prop := if i = 10 ∨ i = 14 then Below B w w' else if i = 4 then ∃ g, (∃ cur T, w.heap[g]? = some (.cells cur T (0, 0)) ∧ cur.size = 0) ∧ w.grownBy w' (some g) else Below w.heap.size w w'
def SenF (B b0 cap k : Nat) (ts : List Summons) (x : Summons) : Nat → Value → World → Prop
  | 0, v, w => (∃ g, v = .slice (some ⟨g, 0, none⟩) 0 0) ∧ Summons.L w B v []
  | 1, v, _ | 11, v, _ => v = .slice (some ⟨b0, 0, none⟩) ts.length cap
  | 2, v, _ | 12, v, _ => v = .int .i64 (k : Int)
  | 3, v, _ => ∃ c, v = .slice (some ⟨b0, 0, none⟩) k c
  | 4, v, w => Summons.L w B v (ts.take k)
  | 5, v, _ => v = .int .i64 x.num
  | 6, v, _ => v = .int .i64 x.sent
  | 7, v, _ => v = .int .i64 x.due
  | 8, v, _ => v = .agg #[.int .i64 x.num, .int .i64 x.sent, .int .i64 x.due, .int .i64 0, .int .i64 0]
  | 9, v, w => Summons.L w B v [⟨x.num, x.sent, x.due, 0, 0⟩]
  | 10, v, w => Summons.L w B v (ts.take k ++ [⟨x.num, x.sent, x.due, 0, 0⟩])
  | 13, v, _ => ∃ c off, v = .slice (some ⟨b0, off, none⟩) (ts.length - k) c ∧ (off = k * 5 ∨ ts.drop k = [])
  | 14, v, w | 15, v, w => Summons.L w B v (ts.take k ++ [⟨x.num, x.sent, x.due, 0, 0⟩] ++ ts.drop k)
  | _, _, _ => True
def senGone : Nat → Option Nat
  | 0 | 3 => some 4
  | 4 | 9 => some 10
  | 10 | 13 => some 14
  | 14 => some 15
  | _ => none
def senKeep (i j : Nat) : Bool := !((i == 4 && (j == 0 || j == 4)) || (i == 10 || i == 14) && (j == 0 || j == 4 || j == 9 || j == 10 || j == 14 || j == 15))
theorem vals_take9 {w : World} {b0 : Nat} {ts : List Summons} (h : Summons.ListAt w (some ⟨b0, 0, none⟩) ts) {k : Nat} (hk : k ≤ ts.length) (j : Nat) (u : Value) (hu : (Summons.vals (ts.take k))[j]? = some u) : w.cell? ((⟨b0, 0, none⟩ : Addr).add j) = some u := by
  rw [← (Summons.vals_split hk).1, List.getElem?_take] at hu
  split at hu
  · exact vals_ofM2 h rfl j u hu
  · cases hu
theorem vals_drop9 {w : World} {b0 : Nat} {ts : List Summons} (h : Summons.ListAt w (some ⟨b0, 0, none⟩) ts) {k : Nat} (hk : k ≤ ts.length) (j : Nat) (u : Value) (hu : (Summons.vals (ts.drop k))[j]? = some u) : w.cell? ((⟨b0, k * 5, none⟩ : Addr).add j) = some u := by
  rw [← (Summons.vals_split hk).2, List.getElem?_drop] at hu
  have := vals_ofM2 h rfl (k * 5 + j) u hu
  rw [Addr.add_mid] at this ⊢
  rwa [Nat.zero_add] at this
/-- behind the loop: the place -/
theorem place_at9 {ts : List Summons} {n : Int} {k : Nat} (hk : k ≤ ts.length) (h1 : ∀ (i : Nat) s, i < k → ts[i]? = some s → s.num < n) (h2 : ∀ s, ts[k]? = some s → ¬ s.num < n) : placeM ts n = k := placeM_eq ⟨hk, h1, h2⟩

set_option maxRecDepth 100000 in
set_option maxHeartbeats 8000000 in
theorem specSendSummons_any (ha : Option Addr) (hn hc : Nat) (hs : List Int) (b0 len cap : Nat) (ts : List Summons) (n d k0 : Int) (w : World) (hhl : hs.length = hn) (hhm : hn ≤ maxLen) (hh : IntsAt w ha hs) (hl : ts.length = len) (hm : len ≤ maxLen) (h : Summons.ListAt w (some ⟨b0, 0, none⟩) ts) (hcap : len ≤ cap) :
    Calls Tryd.prog 25 #[.slice ha hn hc, .slice (some ⟨b0, 0, none⟩) len cap, .int .i64 n, .int .i64 d, .int .i64 k0] w (SaysNewM (sendR hs ts n d k0).1 (sendR hs ts n d k0).2 w) := by
  have HL := Lib.hid hl; have HI := Lib.hid h
  have HH := Lib.hid (fun (W : World) (hB : Below w.heap.size w W) => specAreHol_any ha hn hc hs W hhl hhm (hh.below hB))
  have HM := Lib.hid (fun (W : World) (hB : Below w.heap.size w W) => specAreM_any (some ⟨b0, 0, none⟩) len cap ts W hl hm (h.below hB))
  have HN := Lib.hid (fun W => specIn9 n 1 1000000 W)
  have HD := Lib.hid (fun (W : World) (hB : Below w.heap.size w W) => specDeadlineOf_any ha hn hc hs d k0 W hhl hhm (hh.below hB))
  clear h hh hm hhm
  cases hb1 : hol hs
  · have HF := Lib.hid (sendR_1 (hs := hs) (ts := ts) (n := n) (d := d) (k := k0) (fun hh => by rw [hb1] at hh; cases hh.1))
    generalize sendR hs ts n d k0 = v at HF ⊢
    rw [hb1] at HH; clear hb1
    go_enter Tryd.func25, Tryd.ntmps25
    go_wp2_with fail
    refine (HH.out _ (Below.refl _ _)).mono ?_; rintro e w1 ⟨rfl, m1, hw⟩
    have HB1 := Lib.hid (show Below w.heap.size w w1 by rw [hw]; exact Go.below_drewN (Below.refl w.heap.size w) m1)
    clear hw
    go_wp2_with fail
    go_ret2
    rw [HF.out]
    exact SaysNewM.nil HB1.out
  cases hb2 : areM ts
  · have HF := Lib.hid (sendR_1 (hs := hs) (ts := ts) (n := n) (d := d) (k := k0) (fun hh => by rw [hb2] at hh; cases hh.2))
    generalize sendR hs ts n d k0 = v at HF ⊢
    rw [hb1] at HH; rw [hb2] at HM; clear hb1 hb2
    go_enter Tryd.func25, Tryd.ntmps25
    go_wp2_with fail
    refine (HH.out _ (Below.refl _ _)).mono ?_; rintro e w1 ⟨rfl, m1, hw⟩
    have HB1 := Lib.hid (show Below w.heap.size w w1 by rw [hw]; exact Go.below_drewN (Below.refl w.heap.size w) m1)
    clear hw
    go_wp2_with fail
    refine (HM.out _ HB1.out).mono ?_; rintro e w2 ⟨rfl, hB⟩
    have HB2 := Lib.hid (HB1.out.trans (hB.mono HB1.out.size)); clear hB
    go_wp2_with fail
    go_ret2
    rw [HF.out]
    exact SaysNewM.nil HB2.out
  cases hb3 : inR n 1 1000000
  · have HF := Lib.hid (sendR_2 (d := d) (k := k0) ⟨hb1, hb2⟩ hb3)
    generalize sendR hs ts n d k0 = v at HF ⊢
    rw [hb1] at HH; rw [hb2] at HM; rw [hb3] at HN; clear hb1 hb2 hb3
    go_enter Tryd.func25, Tryd.ntmps25
    go_wp2_with fail
    refine (HH.out _ (Below.refl _ _)).mono ?_; rintro e w1 ⟨rfl, m1, hw⟩
    have HB1 := Lib.hid (show Below w.heap.size w w1 by rw [hw]; exact Go.below_drewN (Below.refl w.heap.size w) m1)
    clear hw
    go_wp2_with fail
    refine (HM.out _ HB1.out).mono ?_; rintro e w2 ⟨rfl, hB⟩
    have HB2 := Lib.hid (HB1.out.trans (hB.mono HB1.out.size)); clear hB
    go_wp2_with fail
    refine (HN.out _).mono ?_; rintro e w3 ⟨rfl, hw⟩
    subst hw
    go_wp2_with fail
    go_ret2
    rw [HF.out]
    exact SaysNewM.nil HB2.out
  rcases deadR_cases hs d k0 with ⟨due, hdd, _, hday, hdue⟩ | ⟨c, hdd, hcc⟩
  rotate_left
  · have HF := Lib.hid (sendR_c ⟨hb1, hb2⟩ hb3 hdd (by omega))
    generalize sendR hs ts n d k0 = v at HF ⊢
    rw [hb1] at HH; rw [hb2] at HM; rw [hb3] at HN; rw [hdd] at HD; clear hb1 hb2 hb3 hdd
    have hc0 : (c != 0) = true := by simp; omega
    have HC := Lib.hid (show c ≠ 0 by omega)
    clear hcc
    go_enter Tryd.func25, Tryd.ntmps25
    go_wp2_with fail
    refine (HH.out _ (Below.refl _ _)).mono ?_; rintro e w1 ⟨rfl, m1, hw⟩
    have HB1 := Lib.hid (show Below w.heap.size w w1 by rw [hw]; exact Go.below_drewN (Below.refl w.heap.size w) m1)
    clear hw
    go_wp2_with fail
    refine (HM.out _ HB1.out).mono ?_; rintro e w2 ⟨rfl, hB⟩
    have HB2 := Lib.hid (HB1.out.trans (hB.mono HB1.out.size)); clear hB
    go_wp2_with fail
    refine (HN.out _).mono ?_; rintro e w3 ⟨rfl, hw⟩
    subst hw
    go_wp2_with fail
    refine (HD.out _ HB2.out).mono ?_; rintro e w4 hP
    obtain ⟨rfl, hB⟩ := hP
    have HB4 := Lib.hid (HB2.out.trans (hB.mono HB2.out.size)); clear hB
    go_wp2_with fail
    go_ret2
    rw [HF.out]
    exact SaysNewM.nil HB4.out
  have hlen : ts.length ≤ 20 := areM_len hb2
  have HF := Lib.hid (sendR_0 ⟨hb1, hb2⟩ hb3 hdd)
  generalize sendR hs ts n d k0 = v at HF ⊢
  rw [hb1] at HH; rw [hb2] at HM; rw [hb3] at HN; rw [hdd] at HD
  clear hb1 hb2 hb3 hdd hday hdue
  go_enter Tryd.func25, Tryd.ntmps25
  go_wp2_with fail
  refine (HH.out _ (Below.refl _ _)).mono ?_; rintro e w1 ⟨rfl, m1, hw⟩
  have HB1 := Lib.hid (show Below w.heap.size w w1 by rw [hw]; exact Go.below_drewN (Below.refl w.heap.size w) m1)
  clear hw
  go_wp2_with fail
  refine (HM.out _ HB1.out).mono ?_; rintro e w2 ⟨rfl, hB⟩
  have HB2 := Lib.hid (HB1.out.trans (hB.mono HB1.out.size)); clear hB
  go_wp2_with fail
  refine (HN.out _).mono ?_; rintro e w3 ⟨rfl, hw⟩
  subst hw
  go_wp2_with fail
  refine (HD.out _ HB2.out).mono ?_; rintro e w4 hP
  obtain ⟨rfl, hB⟩ := hP
  have HB4 := Lib.hid (HB2.out.trans (hB.mono HB2.out.size)); clear hB
  go_wp2_with fail
  go_loopw [14] (fun i wr => ∃ k : Nat, k ≤ len ∧ i = .int .i64 k ∧ (∀ (i : Nat) s, i < k → ts[i]? = some s → s.num < n) ∧ Below w.heap.size w wr) (fun i _ => len - (intOf i).toNat)
  case atStart => exact ⟨0, Nat.zero_le _, rfl, atPlace_zero ts n, HB4.out⟩
  case round =>
    obtain ⟨k, hk, rfl, hlow, hB⟩ := hrel
    have HLO := Lib.hid hlow; have HB := Lib.hid hB; clear hlow hB
    by_cases hmore : ∃ c, ts[k]? = some c ∧ c.num < n
    · obtain ⟨c, hc, hcn⟩ := hmore
      have hkl : k < len := by rw [← HL.out]; exact lt_of_getM hc
      obtain ⟨b, off, c', ha, hcc, hp⟩ := (HI.out.below HB.out).at HL.out hkl
      rw [hc] at hp
      obtain rfl := Option.some.inj hp
      have HX := Lib.hid (below_next HLO.out hc hcn)
      cases ha
      obtain ⟨c0, c1, c2, c3, c4⟩ := hcc
      rw [Nat.zero_add] at c0
      clear hp hc
      go_wp2_with fail
      go_roundw
      case rel => exact ⟨k + 1, by omega, by go_num, HX.out, HB.out⟩
      case measure => simp [intOf]; omega
    · have hstop : ∀ s, ts[k]? = some s → ¬ s.num < n := fun s hs h => hmore ⟨s, hs, h⟩
      have hpl := place_at9 (by rw [HL.out]; exact hk) HLO.out hstop
      have hins : insM ts ⟨n, d, due, 0, 0⟩ = ts.take k ++ [⟨n, d, due, 0, 0⟩] ++ ts.drop k := by unfold insM; rw [hpl]
      have hul : (insM ts ⟨n, d, due, 0, 0⟩).length ≤ 1000 := by rw [insM_len]; omega
      have HIr := Lib.hid (HI.out.below HB.out)
      generalize insM ts ⟨n, d, due, 0, 0⟩ = us at HF hins hul
      have HINS := Lib.hid hins.symm; have HUL := Lib.hid hul
      clear hins hul hpl hmore
      have hkl : k ≤ ts.length := by rw [HL.out]; exact hk
      by_cases hlt : k < len
      · obtain ⟨b, off, c, ha, hcc, hp⟩ := (HI.out.below HB.out).at HL.out hlt
        have hcn := hstop c hp
        have hcb : decide (c.num < n) = false := decide_eq_false hcn
        cases ha
        obtain ⟨c0, c1, c2, c3, c4⟩ := hcc
        rw [Nat.zero_add] at c0
        clear hp hcn hstop
        go_wp2_with fail
        obtain rfl := HL.out
        clear c0 c1 c2 c3 c4 hcb hlt
        refine wp_region_facts2 (sz := 71) [1, 2, 3, 12, 14] (by kernel_rfl) (by kernel_rfl) (by kernel_rfl) senGone senKeep (by kernel_rfl) (by kernel_rfl) (SenG wr.heap.size wr) (SenR wr.heap.size) (SenF wr.heap.size b0 cap k ts ⟨n, d, due, 0, 0⟩) rfl ⟨Below.drew (Below.refl _ _), Nat.le_refl _⟩ ?_ ?_ ?_
        · intro i j u w2 w3 hi hj hkp hf hR
          have hi : i < 16 := hi; have hj : j < 16 := hj
          simp only [SenR] at hR
          by_cases h7 : i = 10 ∨ i = 14
          · rw [if_pos h7] at hR
            have hj2 : ¬ (j = 0 ∨ j = 4 ∨ j = 9 ∨ j = 10 ∨ j = 14 ∨ j = 15) := by
              intro h
              have : senKeep i j = false := by rcases h7 with rfl | rfl <;> rcases h with rfl | rfl | rfl | rfl | rfl | rfl <;> rfl
              rw [this] at hkp; cases hkp
            unfold SenF at hf ⊢
            split at hf <;> first | exact hf | (exfalso; omega)
          · rw [if_neg h7] at hR
            by_cases h4 : i = 4
            · rw [if_pos h4] at hR
              subst h4
              have hj2 : ¬ (j = 0 ∨ j = 4) := by
                rintro (rfl | rfl) <;> cases hkp
              obtain ⟨g0, he, hg⟩ := hR
              unfold SenF at hf ⊢
              split at hf <;> first | exact hf | (exfalso; omega) | exact hf.other (by simp) he hg
            · rw [if_neg h4] at hR
              unfold SenF at hf ⊢
              split at hf <;> first | exact hf | exact hf.below hR | exact ⟨hf.1, hf.2.below hR⟩ | trivial
        · intro i o ho
          have hbw : ∀ W, SenG wr.heap.size wr W → wr.heap.size ≤ W.heap.size := fun W h => h.2
          have hls : ∀ W, SenG wr.heap.size wr W → Summons.ListAt W (some ⟨b0, 0, none⟩) ts := fun W h => HIr.out.below h.1
          match i, ho with
          | 0, ho =>
            cases ho
            intro ev w' hc hfn hb hG hd
            refine stepTo_gen fun K' hK => ?_
            simp [go_sem, stepTo, hc, hfn]
            exact hK _ _ ⟨hG.alloc _ (Nat.le_refl _), Summons.bx _ _, (fun h => by cases h), ⟨_, rfl⟩, ⟨_, _, rfl⟩, World.ownsRow_lit w' #[] 0 (hbw w' hG) (by decide) rfl⟩
          | 1, ho | 11, ho =>
            cases ho
            intro ev w' hc hfn hb hG hd
            have h0 : ev (.tmp 1) = .slice (some ⟨b0, 0, none⟩) ts.length cap := hb 1 (by simp)
            refine stepTo_gen fun K' hK => ?_
            simp [go_sem, stepTo, hc, hfn, h0]
            exact hK _ _ ⟨hG, Below.refl _ _, (fun h => by cases h), rfl⟩
          | 2, ho | 12, ho =>
            cases ho
            intro ev w' hc hfn hb hG hd
            have h0 : ev (.tmp 14) = .int .i64 (k : Int) := hb 14 (by simp)
            refine stepTo_gen fun K' hK => ?_
            simp [go_sem, stepTo, hc, hfn, h0]
            exact hK _ _ ⟨hG, Below.refl _ _, (fun h => by cases h), rfl⟩
          | 3, ho =>
            cases ho
            intro ev w' hc hfn hb hG hd
            have h1 : ev (.tmp 53) = .slice (some ⟨b0, 0, none⟩) ts.length cap := hd { on := 1, ground := .data } (by simp) rfl rfl _ rfl
            have h2 : ev (.tmp 54) = .int .i64 (k : Int) := hd { on := 2, ground := .data } (by simp) rfl rfl _ rfl
            have hkc : k ≤ cap := by omega
            refine stepTo_gen fun K' hK => ?_
            simp [go_sem, stepTo, hc, hfn, h1, h2, hk, hkc]
            exact hK _ _ ⟨hG, Below.refl _ _, (fun h => by cases h), _, rfl⟩
          | 4, ho =>
            cases ho
            intro ev w' hc hfn hb hG hd
            obtain ⟨⟨g0, e0⟩, h1⟩ : (∃ g0, ev (.tmp 52) = .slice (some ⟨g0, 0, none⟩) 0 0) ∧ Summons.L w' wr.heap.size (ev (.tmp 52)) [] := hd { on := 0, ground := .data } (by simp) rfl rfl _ rfl
            obtain ⟨c, h2⟩ : ∃ c, ev (.tmp 55) = .slice (some ⟨b0, 0, none⟩) k c := hd { on := 3, ground := .data } (by simp) rfl rfl _ rfl
            have hlk : (ts.take k).length = k := by rw [List.length_take]; omega
            obtain ⟨v', w'', hr, hO, hg⟩ := Summons.append_run 24 h1 ⟨b0, 0, none⟩ c (qs := ts.take k) (fun j u hu => vals_take9 (hls w' hG) hkl j u hu) (by rw [hlk]; simp; omega) (hbw w' hG)
            rw [hlk] at hr
            refine stepTo_gen fun K' hK => step_app (s := .tmp 52) (x := .tmp 55) (t := 24) rfl (by rw [h2]; exact hr) (hK _ _ ⟨hG.grown h1 hg (Nat.le_refl _), ?_, (fun h => by cases h), hO⟩)
            have hg0 : w'.grownBy w'' (some g0) := by have := hg; rw [e0] at this; exact this
            refine ⟨g0, ?_, hg0⟩
            rcases h1.2.2 with ⟨e1, _⟩ | ⟨g1, cap1, cur1, e1, _, h5, _, _, h7, _⟩
            · rw [e0] at e1; cases e1
            · rw [e0] at e1; cases e1; exact ⟨_, _, h5, by rw [h7]⟩
          | 5, ho =>
            cases ho
            intro ev w' hc hfn hb hG hd
            have h1 : ev (.tmp 2) = .int .i64 n := hb 2 (by simp)
            refine stepTo_gen fun K' hK => ?_
            simp [go_sem, stepTo, hc, hfn, h1]
            exact hK _ _ ⟨hG, Below.refl _ _, (fun h => by cases h), rfl⟩
          | 6, ho =>
            cases ho
            intro ev w' hc hfn hb hG hd
            have h1 : ev (.tmp 3) = .int .i64 d := hb 3 (by simp)
            refine stepTo_gen fun K' hK => ?_
            simp [go_sem, stepTo, hc, hfn, h1]
            exact hK _ _ ⟨hG, Below.refl _ _, (fun h => by cases h), rfl⟩
          | 7, ho =>
            cases ho
            intro ev w' hc hfn hb hG hd
            have h1 : ev (.tmp 12) = .int .i64 due := hb 12 (by simp)
            refine stepTo_gen fun K' hK => ?_
            simp [go_sem, stepTo, hc, hfn, h1]
            exact hK _ _ ⟨hG, Below.refl _ _, (fun h => by cases h), rfl⟩
          | 8, ho =>
            cases ho
            intro ev w' hc hfn hb hG hd
            have h1 : ev (.tmp 57) = .int .i64 n := hd { on := 5, ground := .data } (by simp) rfl rfl _ rfl
            have h2 : ev (.tmp 58) = .int .i64 d := hd { on := 6, ground := .data } (by simp) rfl rfl _ rfl
            have h3 : ev (.tmp 59) = .int .i64 due := hd { on := 7, ground := .data } (by simp) rfl rfl _ rfl
            refine stepTo_gen fun K' hK => ?_
            simp [go_sem, stepTo, hc, hfn, h1, h2, h3]
            exact hK _ _ ⟨hG, Below.refl _ _, (fun h => by cases h), rfl⟩
          | 9, ho =>
            cases ho
            intro ev w' hc hfn hb hG hd
            have h1 : ev (.tmp 60) = .agg #[.int .i64 n, .int .i64 d, .int .i64 due, .int .i64 0, .int .i64 0] := hd { on := 8, ground := .data } (by simp) rfl rfl _ rfl
            refine stepTo_gen fun K' hK => ?_
            simp [go_sem, stepTo, hc, hfn, h1]
            exact hK _ _ ⟨hG.alloc _ (Nat.le_refl _), Summons.bx _ _, (fun h => by cases h), ⟨_, _, rfl⟩, World.ownsRow_lit w' #[.int .i64 n, .int .i64 d, .int .i64 due, .int .i64 0, .int .i64 0] 1 (hbw w' hG) (by decide) rfl⟩
          | 10, ho =>
            cases ho
            intro ev w' hc hfn hb hG hd
            have h1 : Summons.L w' wr.heap.size (ev (.tmp 56)) (ts.take k) := hd { on := 4, ground := .data } (by simp) rfl rfl _ rfl
            have h2 : Summons.L w' wr.heap.size (ev (.tmp 61)) [⟨n, d, due, 0, 0⟩] := hd { on := 9, ground := .data } (by simp) rfl rfl _ rfl
            obtain ⟨g2, c2, e2⟩ := h2.1
            rw [e2] at h2
            obtain ⟨v', w'', hr, hO, hg⟩ := Summons.append_run 24 h1 ⟨g2, 0, none⟩ c2 (qs := [⟨n, d, due, 0, 0⟩]) (fun j u hu => by rw [Addr.add_mid, Nat.zero_add]; exact h2.cell hu) (by rw [List.length_take]; simp; omega) (hbw w' hG)
            have e2' : ev (.tmp 61) = .slice (some ⟨g2, 0, none⟩) 1 c2 := e2
            have hr' : (Builtin.append_ #[24, 24] 24 #[ev (.tmp 56), .slice (some ⟨g2, 0, none⟩) 1 c2]).run Tryd.prog w' = .ok v' w'' := hr
            refine stepTo_gen fun K' hK => step_app (s := .tmp 56) (x := .tmp 61) (t := 24) rfl (by rw [e2']; exact hr') ?_
            exact hK _ _ ⟨hG.grown h1 hg (Nat.le_refl _), (Below.refl _ _).grown hg (hbw w' hG) (fun j hj => (h1.2.lt j hj).1), (fun h => by cases h), hO⟩
          | 13, ho =>
            cases ho
            intro ev w' hc hfn hb hG hd
            have h1 : ev (.tmp 63) = .slice (some ⟨b0, 0, none⟩) ts.length cap := hd { on := 11, ground := .data } (by simp) rfl rfl _ rfl
            have h2 : ev (.tmp 64) = .int .i64 (k : Int) := hd { on := 12, ground := .data } (by simp) rfl rfl _ rfl
            have hkc : k ≤ cap := by omega
            by_cases hck : cap = k
            · have hdn : ts.drop k = [] := List.drop_of_length_le (by omega)
              refine stepTo_gen fun K' hK => ?_
              simp [go_sem, stepTo, hc, hfn, h1, h2, hkl, hkc, hck]
              exact hK _ _ ⟨hG, Below.refl _ _, (fun h => by cases h), _, _, rfl, .inr hdn⟩
            · refine stepTo_gen fun K' hK => ?_
              simp [go_sem, stepTo, hc, hfn, h1, h2, hkl, hkc, hck]
              exact hK _ _ ⟨hG, Below.refl _ _, (fun h => by cases h), _, _, rfl, .inl rfl⟩
          | 14, ho =>
            cases ho
            intro ev w' hc hfn hb hG hd
            have h1 : Summons.L w' wr.heap.size (ev (.tmp 62)) (ts.take k ++ [⟨n, d, due, 0, 0⟩]) := hd { on := 10, ground := .data } (by simp) rfl rfl _ rfl
            obtain ⟨c, off, h2, hoff⟩ : ∃ c off, ev (.tmp 65) = .slice (some ⟨b0, off, none⟩) (ts.length - k) c ∧ (off = k * 5 ∨ ts.drop k = []) := hd { on := 13, ground := .data } (by simp) rfl rfl _ rfl
            have hlk : (ts.drop k).length = ts.length - k := List.length_drop
            obtain ⟨v', w'', hr, hO, hg⟩ := Summons.append_run 24 h1 ⟨b0, off, none⟩ c (qs := ts.drop k) (fun j u hu => by
              rcases hoff with rfl | hoff
              case inr => rw [hoff] at hu; simp [Summons.vals] at hu
              exact vals_drop9 (hls w' hG) hkl j u hu) (by simp only [List.length_append, List.length_take, List.length_drop, List.length_singleton]; omega) (hbw w' hG)
            rw [hlk] at hr
            refine stepTo_gen fun K' hK => step_app (s := .tmp 62) (x := .tmp 65) (t := 24) rfl (by rw [h2]; exact hr) ?_
            exact hK _ _ ⟨hG.grown h1 hg (Nat.le_refl _), (Below.refl _ _).grown hg (hbw w' hG) (fun j hj => (h1.2.lt j hj).1), (fun h => by cases h), hO⟩
          | 15, ho =>
            cases ho
            intro ev w' hc hfn hb hG hd
            have h1 : Summons.L w' wr.heap.size (ev (.tmp 66)) (ts.take k ++ [⟨n, d, due, 0, 0⟩] ++ ts.drop k) := hd { on := 14, ground := .data } (by simp) rfl rfl _ rfl
            refine stepTo_gen fun K' hK => ?_
            simp [go_sem, stepTo, hc, hfn]
            exact hK _ _ ⟨hG, Below.refl _ _, (fun h => by cases h), h1⟩
          | m + 16, ho => simp at ho
        · intro a w' hb hs hdf hG hf
          have h6 : Summons.L w' wr.heap.size (a.eval (.tmp 15)) (ts.take k ++ [⟨n, d, due, 0, 0⟩] ++ ts.drop k) := hf 15 _ rfl rfl
          rw [HINS.out] at h6
          obtain ⟨g, cap2, hv⟩ := h6.1
          rw [hv] at h6
          obtain ⟨⟨ls⟩, dfs⟩ := a
          simp only at hdf
          subst hdf
          have hs : ls.length = 71 := by simpa using hs
          have hv' : (⟨ls⟩ : Array Value).getD 15 undef = .slice (some ⟨g, 0, none⟩) us.length cap2 := hv
          have HL6 := Lib.hid h6; have HB6 := Lib.hid (HB.out.trans (hG.1.mono HB.out.size))
          have HT := Lib.hid (specAreM_any (some ⟨g, 0, none⟩) us.length cap2 us w' rfl (by have := HUL.out; unfold maxLen; omega) HL6.out.reads)
          clear hf hb hG h6 hv
          match ls, hs with
          | x0 :: x1 :: x2 :: x3 :: x4 :: x5 :: x6 :: x7 :: x8 :: x9 :: x10 :: x11 :: x12 :: x13 :: x14 :: x15 :: x16 :: x17 :: x18 :: x19 :: x20 :: x21 :: x22 :: x23 :: x24 :: x25 :: x26 :: x27 :: x28 :: x29 :: x30 :: x31 :: x32 :: x33 :: x34 :: x35 :: x36 :: x37 :: x38 :: x39 :: x40 :: x41 :: x42 :: x43 :: x44 :: x45 :: x46 :: x47 :: x48 :: x49 :: x50 :: x51 :: x52 :: x53 :: x54 :: x55 :: x56 :: x57 :: x58 :: x59 :: x60 :: x61 :: x62 :: x63 :: x64 :: x65 :: x66 :: x67 :: x68 :: x69 :: x70 :: [], _ =>
            have e15 : x15 = .slice (some ⟨g, 0, none⟩) us.length cap2 := hv'
            subst e15
            clear hv'
            cases hbu : areM us
            · rw [hbu] at HT HF
              clear hbu
              go_wp2_with fail
              refine HT.out.mono ?_; rintro e w2 ⟨rfl, hB⟩
              have HB7 := Lib.hid (HB6.out.trans (hB.mono HB6.out.size)); clear hB
              go_wp2_with fail
              go_ret2
              rw [HF.out]
              exact SaysNewM.nil HB7.out
            · rw [hbu] at HT HF
              clear hbu
              go_wp2_with fail
              refine HT.out.mono ?_; rintro e w2 ⟨rfl, hB⟩
              have HB7 := Lib.hid (HB6.out.trans (hB.mono HB6.out.size)); have HL7 := Lib.hid ((HL6.out.below hB).base HB.out.size); clear hB
              obtain ⟨a7, cap7, he7, ho7⟩ := HL7.out.own
              cases he7
              have HO7 := Lib.hid ho7
              clear ho7
              go_wp2_with fail
              go_ret2
              rw [HF.out]
              exact ⟨_, _, rfl, HO7.out, HB7.out⟩
      · clear hstop
        go_wp2_with fail
        obtain rfl := HL.out
        clear hlt
        refine wp_region_facts2 (sz := 71) [1, 2, 3, 12, 14] (by kernel_rfl) (by kernel_rfl) (by kernel_rfl) senGone senKeep (by kernel_rfl) (by kernel_rfl) (SenG wr.heap.size wr) (SenR wr.heap.size) (SenF wr.heap.size b0 cap k ts ⟨n, d, due, 0, 0⟩) rfl ⟨Below.drew (Below.refl _ _), Nat.le_refl _⟩ ?_ ?_ ?_
        · intro i j u w2 w3 hi hj hkp hf hR
          have hi : i < 16 := hi; have hj : j < 16 := hj
          simp only [SenR] at hR
          by_cases h7 : i = 10 ∨ i = 14
          · rw [if_pos h7] at hR
            have hj2 : ¬ (j = 0 ∨ j = 4 ∨ j = 9 ∨ j = 10 ∨ j = 14 ∨ j = 15) := by
              intro h
              have : senKeep i j = false := by rcases h7 with rfl | rfl <;> rcases h with rfl | rfl | rfl | rfl | rfl | rfl <;> rfl
              rw [this] at hkp; cases hkp
            unfold SenF at hf ⊢
            split at hf <;> first | exact hf | (exfalso; omega)
          · rw [if_neg h7] at hR
            by_cases h4 : i = 4
            · rw [if_pos h4] at hR
              subst h4
              have hj2 : ¬ (j = 0 ∨ j = 4) := by
                rintro (rfl | rfl) <;> cases hkp
              obtain ⟨g0, he, hg⟩ := hR
              unfold SenF at hf ⊢
              split at hf <;> first | exact hf | (exfalso; omega) | exact hf.other (by simp) he hg
            · rw [if_neg h4] at hR
              unfold SenF at hf ⊢
              split at hf <;> first | exact hf | exact hf.below hR | exact ⟨hf.1, hf.2.below hR⟩ | trivial
        · intro i o ho
          have hbw : ∀ W, SenG wr.heap.size wr W → wr.heap.size ≤ W.heap.size := fun W h => h.2
          have hls : ∀ W, SenG wr.heap.size wr W → Summons.ListAt W (some ⟨b0, 0, none⟩) ts := fun W h => HIr.out.below h.1
          match i, ho with
          | 0, ho =>
            cases ho
            intro ev w' hc hfn hb hG hd
            refine stepTo_gen fun K' hK => ?_
            simp [go_sem, stepTo, hc, hfn]
            exact hK _ _ ⟨hG.alloc _ (Nat.le_refl _), Summons.bx _ _, (fun h => by cases h), ⟨_, rfl⟩, ⟨_, _, rfl⟩, World.ownsRow_lit w' #[] 0 (hbw w' hG) (by decide) rfl⟩
          | 1, ho | 11, ho =>
            cases ho
            intro ev w' hc hfn hb hG hd
            have h0 : ev (.tmp 1) = .slice (some ⟨b0, 0, none⟩) ts.length cap := hb 1 (by simp)
            refine stepTo_gen fun K' hK => ?_
            simp [go_sem, stepTo, hc, hfn, h0]
            exact hK _ _ ⟨hG, Below.refl _ _, (fun h => by cases h), rfl⟩
          | 2, ho | 12, ho =>
            cases ho
            intro ev w' hc hfn hb hG hd
            have h0 : ev (.tmp 14) = .int .i64 (k : Int) := hb 14 (by simp)
            refine stepTo_gen fun K' hK => ?_
            simp [go_sem, stepTo, hc, hfn, h0]
            exact hK _ _ ⟨hG, Below.refl _ _, (fun h => by cases h), rfl⟩
          | 3, ho =>
            cases ho
            intro ev w' hc hfn hb hG hd
            have h1 : ev (.tmp 53) = .slice (some ⟨b0, 0, none⟩) ts.length cap := hd { on := 1, ground := .data } (by simp) rfl rfl _ rfl
            have h2 : ev (.tmp 54) = .int .i64 (k : Int) := hd { on := 2, ground := .data } (by simp) rfl rfl _ rfl
            have hkc : k ≤ cap := by omega
            refine stepTo_gen fun K' hK => ?_
            simp [go_sem, stepTo, hc, hfn, h1, h2, hk, hkc]
            exact hK _ _ ⟨hG, Below.refl _ _, (fun h => by cases h), _, rfl⟩
          | 4, ho =>
            cases ho
            intro ev w' hc hfn hb hG hd
            obtain ⟨⟨g0, e0⟩, h1⟩ : (∃ g0, ev (.tmp 52) = .slice (some ⟨g0, 0, none⟩) 0 0) ∧ Summons.L w' wr.heap.size (ev (.tmp 52)) [] := hd { on := 0, ground := .data } (by simp) rfl rfl _ rfl
            obtain ⟨c, h2⟩ : ∃ c, ev (.tmp 55) = .slice (some ⟨b0, 0, none⟩) k c := hd { on := 3, ground := .data } (by simp) rfl rfl _ rfl
            have hlk : (ts.take k).length = k := by rw [List.length_take]; omega
            obtain ⟨v', w'', hr, hO, hg⟩ := Summons.append_run 24 h1 ⟨b0, 0, none⟩ c (qs := ts.take k) (fun j u hu => vals_take9 (hls w' hG) hkl j u hu) (by rw [hlk]; simp; omega) (hbw w' hG)
            rw [hlk] at hr
            refine stepTo_gen fun K' hK => step_app (s := .tmp 52) (x := .tmp 55) (t := 24) rfl (by rw [h2]; exact hr) (hK _ _ ⟨hG.grown h1 hg (Nat.le_refl _), ?_, (fun h => by cases h), hO⟩)
            have hg0 : w'.grownBy w'' (some g0) := by have := hg; rw [e0] at this; exact this
            refine ⟨g0, ?_, hg0⟩
            rcases h1.2.2 with ⟨e1, _⟩ | ⟨g1, cap1, cur1, e1, _, h5, _, _, h7, _⟩
            · rw [e0] at e1; cases e1
            · rw [e0] at e1; cases e1; exact ⟨_, _, h5, by rw [h7]⟩
          | 5, ho =>
            cases ho
            intro ev w' hc hfn hb hG hd
            have h1 : ev (.tmp 2) = .int .i64 n := hb 2 (by simp)
            refine stepTo_gen fun K' hK => ?_
            simp [go_sem, stepTo, hc, hfn, h1]
            exact hK _ _ ⟨hG, Below.refl _ _, (fun h => by cases h), rfl⟩
          | 6, ho =>
            cases ho
            intro ev w' hc hfn hb hG hd
            have h1 : ev (.tmp 3) = .int .i64 d := hb 3 (by simp)
            refine stepTo_gen fun K' hK => ?_
            simp [go_sem, stepTo, hc, hfn, h1]
            exact hK _ _ ⟨hG, Below.refl _ _, (fun h => by cases h), rfl⟩
          | 7, ho =>
            cases ho
            intro ev w' hc hfn hb hG hd
            have h1 : ev (.tmp 12) = .int .i64 due := hb 12 (by simp)
            refine stepTo_gen fun K' hK => ?_
            simp [go_sem, stepTo, hc, hfn, h1]
            exact hK _ _ ⟨hG, Below.refl _ _, (fun h => by cases h), rfl⟩
          | 8, ho =>
            cases ho
            intro ev w' hc hfn hb hG hd
            have h1 : ev (.tmp 57) = .int .i64 n := hd { on := 5, ground := .data } (by simp) rfl rfl _ rfl
            have h2 : ev (.tmp 58) = .int .i64 d := hd { on := 6, ground := .data } (by simp) rfl rfl _ rfl
            have h3 : ev (.tmp 59) = .int .i64 due := hd { on := 7, ground := .data } (by simp) rfl rfl _ rfl
            refine stepTo_gen fun K' hK => ?_
            simp [go_sem, stepTo, hc, hfn, h1, h2, h3]
            exact hK _ _ ⟨hG, Below.refl _ _, (fun h => by cases h), rfl⟩
          | 9, ho =>
            cases ho
            intro ev w' hc hfn hb hG hd
            have h1 : ev (.tmp 60) = .agg #[.int .i64 n, .int .i64 d, .int .i64 due, .int .i64 0, .int .i64 0] := hd { on := 8, ground := .data } (by simp) rfl rfl _ rfl
            refine stepTo_gen fun K' hK => ?_
            simp [go_sem, stepTo, hc, hfn, h1]
            exact hK _ _ ⟨hG.alloc _ (Nat.le_refl _), Summons.bx _ _, (fun h => by cases h), ⟨_, _, rfl⟩, World.ownsRow_lit w' #[.int .i64 n, .int .i64 d, .int .i64 due, .int .i64 0, .int .i64 0] 1 (hbw w' hG) (by decide) rfl⟩
          | 10, ho =>
            cases ho
            intro ev w' hc hfn hb hG hd
            have h1 : Summons.L w' wr.heap.size (ev (.tmp 56)) (ts.take k) := hd { on := 4, ground := .data } (by simp) rfl rfl _ rfl
            have h2 : Summons.L w' wr.heap.size (ev (.tmp 61)) [⟨n, d, due, 0, 0⟩] := hd { on := 9, ground := .data } (by simp) rfl rfl _ rfl
            obtain ⟨g2, c2, e2⟩ := h2.1
            rw [e2] at h2
            obtain ⟨v', w'', hr, hO, hg⟩ := Summons.append_run 24 h1 ⟨g2, 0, none⟩ c2 (qs := [⟨n, d, due, 0, 0⟩]) (fun j u hu => by rw [Addr.add_mid, Nat.zero_add]; exact h2.cell hu) (by rw [List.length_take]; simp; omega) (hbw w' hG)
            have e2' : ev (.tmp 61) = .slice (some ⟨g2, 0, none⟩) 1 c2 := e2
            have hr' : (Builtin.append_ #[24, 24] 24 #[ev (.tmp 56), .slice (some ⟨g2, 0, none⟩) 1 c2]).run Tryd.prog w' = .ok v' w'' := hr
            refine stepTo_gen fun K' hK => step_app (s := .tmp 56) (x := .tmp 61) (t := 24) rfl (by rw [e2']; exact hr') ?_
            exact hK _ _ ⟨hG.grown h1 hg (Nat.le_refl _), (Below.refl _ _).grown hg (hbw w' hG) (fun j hj => (h1.2.lt j hj).1), (fun h => by cases h), hO⟩
          | 13, ho =>
            cases ho
            intro ev w' hc hfn hb hG hd
            have h1 : ev (.tmp 63) = .slice (some ⟨b0, 0, none⟩) ts.length cap := hd { on := 11, ground := .data } (by simp) rfl rfl _ rfl
            have h2 : ev (.tmp 64) = .int .i64 (k : Int) := hd { on := 12, ground := .data } (by simp) rfl rfl _ rfl
            have hkc : k ≤ cap := by omega
            by_cases hck : cap = k
            · have hdn : ts.drop k = [] := List.drop_of_length_le (by omega)
              refine stepTo_gen fun K' hK => ?_
              simp [go_sem, stepTo, hc, hfn, h1, h2, hkl, hkc, hck]
              exact hK _ _ ⟨hG, Below.refl _ _, (fun h => by cases h), _, _, rfl, .inr hdn⟩
            · refine stepTo_gen fun K' hK => ?_
              simp [go_sem, stepTo, hc, hfn, h1, h2, hkl, hkc, hck]
              exact hK _ _ ⟨hG, Below.refl _ _, (fun h => by cases h), _, _, rfl, .inl rfl⟩
          | 14, ho =>
            cases ho
            intro ev w' hc hfn hb hG hd
            have h1 : Summons.L w' wr.heap.size (ev (.tmp 62)) (ts.take k ++ [⟨n, d, due, 0, 0⟩]) := hd { on := 10, ground := .data } (by simp) rfl rfl _ rfl
            obtain ⟨c, off, h2, hoff⟩ : ∃ c off, ev (.tmp 65) = .slice (some ⟨b0, off, none⟩) (ts.length - k) c ∧ (off = k * 5 ∨ ts.drop k = []) := hd { on := 13, ground := .data } (by simp) rfl rfl _ rfl
            have hlk : (ts.drop k).length = ts.length - k := List.length_drop
            obtain ⟨v', w'', hr, hO, hg⟩ := Summons.append_run 24 h1 ⟨b0, off, none⟩ c (qs := ts.drop k) (fun j u hu => by
              rcases hoff with rfl | hoff
              case inr => rw [hoff] at hu; simp [Summons.vals] at hu
              exact vals_drop9 (hls w' hG) hkl j u hu) (by simp only [List.length_append, List.length_take, List.length_drop, List.length_singleton]; omega) (hbw w' hG)
            rw [hlk] at hr
            refine stepTo_gen fun K' hK => step_app (s := .tmp 62) (x := .tmp 65) (t := 24) rfl (by rw [h2]; exact hr) ?_
            exact hK _ _ ⟨hG.grown h1 hg (Nat.le_refl _), (Below.refl _ _).grown hg (hbw w' hG) (fun j hj => (h1.2.lt j hj).1), (fun h => by cases h), hO⟩
          | 15, ho =>
            cases ho
            intro ev w' hc hfn hb hG hd
            have h1 : Summons.L w' wr.heap.size (ev (.tmp 66)) (ts.take k ++ [⟨n, d, due, 0, 0⟩] ++ ts.drop k) := hd { on := 14, ground := .data } (by simp) rfl rfl _ rfl
            refine stepTo_gen fun K' hK => ?_
            simp [go_sem, stepTo, hc, hfn]
            exact hK _ _ ⟨hG, Below.refl _ _, (fun h => by cases h), h1⟩
          | m + 16, ho => simp at ho
        · intro a w' hb hs hdf hG hf
          have h6 : Summons.L w' wr.heap.size (a.eval (.tmp 15)) (ts.take k ++ [⟨n, d, due, 0, 0⟩] ++ ts.drop k) := hf 15 _ rfl rfl
          rw [HINS.out] at h6
          obtain ⟨g, cap2, hv⟩ := h6.1
          rw [hv] at h6
          obtain ⟨⟨ls⟩, dfs⟩ := a
          simp only at hdf
          subst hdf
          have hs : ls.length = 71 := by simpa using hs
          have hv' : (⟨ls⟩ : Array Value).getD 15 undef = .slice (some ⟨g, 0, none⟩) us.length cap2 := hv
          have HL6 := Lib.hid h6; have HB6 := Lib.hid (HB.out.trans (hG.1.mono HB.out.size))
          have HT := Lib.hid (specAreM_any (some ⟨g, 0, none⟩) us.length cap2 us w' rfl (by have := HUL.out; unfold maxLen; omega) HL6.out.reads)
          clear hf hb hG h6 hv
          match ls, hs with
          | x0 :: x1 :: x2 :: x3 :: x4 :: x5 :: x6 :: x7 :: x8 :: x9 :: x10 :: x11 :: x12 :: x13 :: x14 :: x15 :: x16 :: x17 :: x18 :: x19 :: x20 :: x21 :: x22 :: x23 :: x24 :: x25 :: x26 :: x27 :: x28 :: x29 :: x30 :: x31 :: x32 :: x33 :: x34 :: x35 :: x36 :: x37 :: x38 :: x39 :: x40 :: x41 :: x42 :: x43 :: x44 :: x45 :: x46 :: x47 :: x48 :: x49 :: x50 :: x51 :: x52 :: x53 :: x54 :: x55 :: x56 :: x57 :: x58 :: x59 :: x60 :: x61 :: x62 :: x63 :: x64 :: x65 :: x66 :: x67 :: x68 :: x69 :: x70 :: [], _ =>
            have e15 : x15 = .slice (some ⟨g, 0, none⟩) us.length cap2 := hv'
            subst e15
            clear hv'
            cases hbu : areM us
            · rw [hbu] at HT HF
              clear hbu
              go_wp2_with fail
              refine HT.out.mono ?_; rintro e w2 ⟨rfl, hB⟩
              have HB7 := Lib.hid (HB6.out.trans (hB.mono HB6.out.size)); clear hB
              go_wp2_with fail
              go_ret2
              rw [HF.out]
              exact SaysNewM.nil HB7.out
            · rw [hbu] at HT HF
              clear hbu
              go_wp2_with fail
              refine HT.out.mono ?_; rintro e w2 ⟨rfl, hB⟩
              have HB7 := Lib.hid (HB6.out.trans (hB.mono HB6.out.size)); have HL7 := Lib.hid ((HL6.out.below hB).base HB.out.size); clear hB
              obtain ⟨a7, cap7, he7, ho7⟩ := HL7.out.own
              cases he7
              have HO7 := Lib.hid ho7
              clear ho7
              go_wp2_with fail
              go_ret2
              rw [HF.out]
              exact ⟨_, _, rfl, HO7.out, HB7.out⟩
end Go.Proofs.YtmnaacgeapldeaaDoor
/- Contracts of the program's chapter 9: sending a summons. (written by impl9.py) -/
namespace Go.Proofs.YtmnaacgeapldeaaDoor
open Go.RowKit Go.Sort Pure1 Pure2 Pure20 Pure21 Pure40


set_option maxRecDepth 100000 in
set_option maxHeartbeats 4000000 in
theorem implWithSent_any (ha : Option Addr) (hn hc : Nat) (hs : List Int) (la : Option Addr) (len cap : Nat) (ts : List Summons) (n d k : Int) (w : World) (hhl : hs.length = hn) (hhm : hn ≤ maxLen) (hh : IntsAt w ha hs) (hl : ts.length = len) (hm : len ≤ maxLen) (h : Summons.ListAt w la ts) :
    Calls Tryd.prog 61 #[.slice ha hn hc, .slice la len cap, .int .i64 n, .int .i64 d, .int .i64 k] w (SaysME (sendR hs ts n d k).1 (sendR hs ts n d k).2 w) := by
  have HL := Lib.hid hl; have HI := Lib.hid h
  have HH := Lib.hid (fun (W : World) (hB : Below w.heap.size w W) => implAreHol_any ha hn hc hs W hhl hhm (hh.below hB))
  have HM := Lib.hid (fun (W : World) (hB : Below w.heap.size w W) => implAreM_any la len cap ts W hl hm (h.below hB))
  have HN := Lib.hid (fun W => implPersNum_any n W)
  have HD := Lib.hid (fun (W : World) (hB : Below w.heap.size w W) => implDeadlineOf_any ha hn hc hs d k W hhl hhm (hh.below hB))
  clear h hh hm hhm
  cases hb1 : hol hs
  · have HF := Lib.hid (sendR_1 (hs := hs) (ts := ts) (n := n) (d := d) (k := k) (fun hh => by rw [hb1] at hh; cases hh.1))
    generalize sendR hs ts n d k = v at HF ⊢
    rw [hb1] at HH; clear hb1
    go_enter Tryd.func61, Tryd.ntmps61
    go_wp2_with fail
    refine (HH.out _ (Below.refl _ _)).mono ?_; rintro e w1 ⟨rfl, hw⟩
    have HB1 := Lib.hid (show Below w.heap.size w w1 by rw [← hw]; exact Below.refl _ _)
    clear hw
    go_wp2_with fail
    go_ret2
    rw [HF.out]
    exact SaysME.nil (c := 1) HB1.out
  cases hb2 : areM ts
  · have HF := Lib.hid (sendR_1 (hs := hs) (ts := ts) (n := n) (d := d) (k := k) (fun hh => by rw [hb2] at hh; cases hh.2))
    generalize sendR hs ts n d k = v at HF ⊢
    rw [hb1] at HH; rw [hb2] at HM; clear hb1 hb2
    go_enter Tryd.func61, Tryd.ntmps61
    go_wp2_with fail
    refine (HH.out _ (Below.refl _ _)).mono ?_; rintro e w1 ⟨rfl, hw⟩
    have HB1 := Lib.hid (show Below w.heap.size w w1 by rw [← hw]; exact Below.refl _ _)
    clear hw
    go_wp2_with fail
    refine (HM.out _ HB1.out).mono ?_; rintro e w2 ⟨rfl, hB⟩
    have HB2 := Lib.hid (HB1.out.trans (hB.mono HB1.out.size)); clear hB
    go_wp2_with fail
    go_ret2
    rw [HF.out]
    exact SaysME.nil (c := 1) HB2.out
  cases hb3 : inR n 1 1000000
  · have HF := Lib.hid (sendR_2 (d := d) (k := k) ⟨hb1, hb2⟩ hb3)
    generalize sendR hs ts n d k = v at HF ⊢
    rw [hb1] at HH; rw [hb2] at HM; rw [hb3] at HN; clear hb1 hb2 hb3
    go_enter Tryd.func61, Tryd.ntmps61
    go_wp2_with fail
    refine (HH.out _ (Below.refl _ _)).mono ?_; rintro e w1 ⟨rfl, hw⟩
    have HB1 := Lib.hid (show Below w.heap.size w w1 by rw [← hw]; exact Below.refl _ _)
    clear hw
    go_wp2_with fail
    refine (HM.out _ HB1.out).mono ?_; rintro e w2 ⟨rfl, hB⟩
    have HB2 := Lib.hid (HB1.out.trans (hB.mono HB1.out.size)); clear hB
    go_wp2_with fail
    refine (HN.out _).mono ?_; rintro e w3 ⟨rfl, hw⟩
    subst hw
    go_wp2_with fail
    go_ret2
    rw [HF.out]
    exact SaysME.nil (c := 2) HB2.out
  rcases deadR_cases hs d k with ⟨due, hdd, _, hday, hdue⟩ | ⟨c, hdd, hcc⟩
  rotate_left
  · have HF := Lib.hid (sendR_c ⟨hb1, hb2⟩ hb3 hdd (by omega))
    generalize sendR hs ts n d k = v at HF ⊢
    rw [hb1] at HH; rw [hb2] at HM; rw [hb3] at HN; rw [hdd] at HD; clear hb1 hb2 hb3 hdd
    have hc0 : (c != 0) = true := by simp; omega
    have HC := Lib.hid (show c ≠ 0 by omega)
    clear hcc
    go_enter Tryd.func61, Tryd.ntmps61
    go_wp2_with fail
    refine (HH.out _ (Below.refl _ _)).mono ?_; rintro e w1 ⟨rfl, hw⟩
    have HB1 := Lib.hid (show Below w.heap.size w w1 by rw [← hw]; exact Below.refl _ _)
    clear hw
    go_wp2_with fail
    refine (HM.out _ HB1.out).mono ?_; rintro e w2 ⟨rfl, hB⟩
    have HB2 := Lib.hid (HB1.out.trans (hB.mono HB1.out.size)); clear hB
    go_wp2_with fail
    refine (HN.out _).mono ?_; rintro e w3 ⟨rfl, hw⟩
    subst hw
    go_wp2_with fail
    refine (HD.out _ HB2.out).mono ?_; rintro e w4 hP
    obtain ⟨rfl, hB⟩ := hP
    have HB4 := Lib.hid (HB2.out.trans (hB.mono HB2.out.size)); clear hB
    go_wp2_with fail
    go_ret2
    rw [HF.out]
    exact ⟨none, 0, by rw [errV_ne HC.out]; rfl, .inl rfl, HB4.out⟩
  have HF := Lib.hid (sendR_0 ⟨hb1, hb2⟩ hb3 hdd)
  have hokx : okM ⟨n, d, due, 0, 0⟩ = true := okM_of (inR_iff.1 hb3) hday hdue (.inl ⟨rfl, rfl⟩)
  have hlen : ts.length ≤ 20 := areM_len hb2
  have HP := Lib.hid (fun (W : World) (hB : Below w.heap.size w W) => implPlace9_any la len cap ts n W hl hb2 (HI.out.below hB))
  have hple := placeM_le ts n
  unfold SaysPlace at HP
  generalize sendR hs ts n d k = v at HF ⊢
  rw [hb1] at HH; rw [hb2] at HM; rw [hb3] at HN; rw [hdd] at HD
  cases hw : whoM ts n with
  | some s =>
    rw [if_neg (by rw [insM_twice (x := ⟨n, d, due, 0, 0⟩) hw]; decide)] at HF
    rw [hw] at HP
    clear hb1 hb2 hb3 hdd hw hokx hple
    generalize ((placeM ts n : Nat) : Int) = pl at HP
    go_enter Tryd.func61, Tryd.ntmps61
    go_wp2_with fail
    refine (HH.out _ (Below.refl _ _)).mono ?_; rintro e w1 ⟨rfl, hw⟩
    have HB1 := Lib.hid (show Below w.heap.size w w1 by rw [← hw]; exact Below.refl _ _)
    clear hw
    go_wp2_with fail
    refine (HM.out _ HB1.out).mono ?_; rintro e w2 ⟨rfl, hB⟩
    have HB2 := Lib.hid (HB1.out.trans (hB.mono HB1.out.size)); clear hB
    go_wp2_with fail
    refine (HN.out _).mono ?_; rintro e w3 ⟨rfl, hw⟩
    subst hw
    go_wp2_with fail
    refine (HD.out _ HB2.out).mono ?_; rintro e w4 hP
    obtain ⟨rfl, hB⟩ := hP
    have HB4 := Lib.hid (HB2.out.trans (hB.mono HB2.out.size)); clear hB
    go_wp2_with fail
    refine (HP.out _ HB4.out).mono ?_; rintro e w5 ⟨rfl, hB⟩
    have HB5 := Lib.hid (HB4.out.trans (hB.mono HB4.out.size)); clear hB
    go_wp2_with fail
    go_ret2
    rw [HF.out]
    exact SaysME.nil (c := 5) HB5.out
  | none =>
    rw [hw] at HP
    by_cases h20 : ts.length = 20
    · rw [if_neg (by rw [insM_full (x := ⟨n, d, due, 0, 0⟩) (by omega)]; decide)] at HF
      have hl20 : len = 20 := by rw [← hl]; exact h20
      have hz : ((len : Int) == 20) = true := by rw [hl20]; rfl
      clear hb1 hb2 hb3 hdd hw hokx hple
      generalize ((placeM ts n : Nat) : Int) = pl at HP
      clear hl20
      go_enter Tryd.func61, Tryd.ntmps61
      go_wp2_with fail
      refine (HH.out _ (Below.refl _ _)).mono ?_; rintro e w1 ⟨rfl, hw⟩
      have HB1 := Lib.hid (show Below w.heap.size w w1 by rw [← hw]; exact Below.refl _ _)
      clear hw
      go_wp2_with fail
      refine (HM.out _ HB1.out).mono ?_; rintro e w2 ⟨rfl, hB⟩
      have HB2 := Lib.hid (HB1.out.trans (hB.mono HB1.out.size)); clear hB
      go_wp2_with fail
      refine (HN.out _).mono ?_; rintro e w3 ⟨rfl, hw⟩
      subst hw
      go_wp2_with fail
      refine (HD.out _ HB2.out).mono ?_; rintro e w4 hP
      obtain ⟨rfl, hB⟩ := hP
      have HB4 := Lib.hid (HB2.out.trans (hB.mono HB2.out.size)); clear hB
      go_wp2_with fail
      refine (HP.out _ HB4.out).mono ?_; rintro e w5 ⟨rfl, hB⟩
      have HB5 := Lib.hid (HB4.out.trans (hB.mono HB4.out.size)); clear hB
      go_wp2_with fail
      go_ret2
      rw [HF.out]
      exact SaysME.nil (c := 5) HB5.out
    · have hin := insM_are (x := ⟨n, d, due, 0, 0⟩) hb2 hokx hw (by omega)
      rw [if_pos hin] at HF
      have hinl := insM_len ts ⟨n, d, due, 0, 0⟩
      have hz : ((len : Int) == 20) = false := beq_eq_false_iff_ne.2 (by omega)
      have HE := Lib.hid (show insM ts ⟨n, d, due, 0, 0⟩ = ts.take (placeM ts n) ++ [⟨n, d, due, 0, 0⟩] ++ ts.drop (placeM ts n) from rfl)
      rw [HE.out] at HF hinl
      clear hb1 hb2 hb3 hdd hw hokx hin HE
      generalize placeM ts n = pl at HP HF hple hinl
      have h19 : ts.length ≤ 19 := by omega
      have HPL := Lib.hid hple; have H19 := Lib.hid h19; have HIL := Lib.hid hinl
      clear hple h19 hinl h20
      go_enter Tryd.func61, Tryd.ntmps61
      go_wp2_with fail
      refine (HH.out _ (Below.refl _ _)).mono ?_; rintro e w1 ⟨rfl, hw⟩
      have HB1 := Lib.hid (show Below w.heap.size w w1 by rw [← hw]; exact Below.refl _ _)
      clear hw
      go_wp2_with fail
      refine (HM.out _ HB1.out).mono ?_; rintro e w2 ⟨rfl, hB⟩
      have HB2 := Lib.hid (HB1.out.trans (hB.mono HB1.out.size)); clear hB
      go_wp2_with fail
      refine (HN.out _).mono ?_; rintro e w3 ⟨rfl, hw⟩
      subst hw
      go_wp2_with fail
      refine (HD.out _ HB2.out).mono ?_; rintro e w4 hP
      obtain ⟨rfl, hB⟩ := hP
      have HB4 := Lib.hid (HB2.out.trans (hB.mono HB2.out.size)); clear hB
      go_wp2_with fail
      refine (HP.out _ HB4.out).mono ?_; rintro e w5 ⟨rfl, hB⟩
      have HB5 := Lib.hid (HB4.out.trans (hB.mono HB4.out.size)); clear hB
      have HCL := Lib.hid (implClone9_any la len cap ts w5 HL.out (by omega) (HI.out.below HB5.out))
      go_wp2_with fail
      refine HCL.out.mono ?_; rintro e w6 ⟨v6, rfl, ho, hB⟩
      have hBd := ho.base HB5.out.size
      have HB6 := Lib.hid (HB5.out.trans (hB.mono HB5.out.size))
      have hbd7 := hBd.alloc (.cells #[.int .i64 n, .int .i64 d, .int .i64 due, .int .i64 0, .int .i64 0] 53)
      have hrow := Summons.box_row w6 ⟨n, d, due, 0, 0⟩ 53
      have hB7 := HB6.out.alloc HB6.out.size (.cells #[.int .i64 n, .int .i64 d, .int .i64 due, .int .i64 0, .int .i64 0] 53)
      have HIN := Lib.hid (insert9_any w.heap.size v6 ts pl ⟨n, d, due, 0, 0⟩ w6.heap.size 1 _ hbd7 hB7.size H19.out HPL.out hrow (fun g hg => by have := (hBd.lt g hg).2; omega))
      have HB7 := Lib.hid hB7
      clear ho hB hBd hbd7 hrow hB7
      go_wp2_with fail
      refine HIN.out.mono ?_; rintro e w8 ⟨g, cap8, rfl, hown, hB⟩
      have HO := Lib.hid hown; have HB8 := Lib.hid (HB7.out.trans hB)
      clear hown hB HIL HIN
      generalize ts.take pl ++ [⟨n, d, due, 0, 0⟩] ++ ts.drop pl = us at HF HO ⊢
      go_wp2_with fail
      go_ret2
      rw [HF.out]
      exact ⟨_, _, rfl, HO.out, HB8.out⟩

set_option maxRecDepth 100000 in
set_option maxHeartbeats 1000000 in
theorem implSendSummons_any (ha : Option Addr) (hn hc : Nat) (hs : List Int) (la : Option Addr) (len cap : Nat) (ts : List Summons) (n d k : Int) (w : World) (hhl : hs.length = hn) (hhm : hn ≤ maxLen) (hh : IntsAt w ha hs) (hl : ts.length = len) (hm : len ≤ maxLen) (h : Summons.ListAt w la ts) (hg : TypeAt w) :
    Calls Tryd.prog 28 #[.slice ha hn hc, .slice la len cap, .int .i64 n, .int .i64 d, .int .i64 k] w (SaysNewM (sendR hs ts n d k).1 (sendR hs ts n d k).2 w) := by
  have HC := Lib.hid (implWithSent_any ha hn hc hs la len cap ts n d k w hhl hhm hh hl hm h)
  have HT := Lib.hid (fun (W : World) (hB : Below w.heap.size w W) => implCode9 (sendR hs ts n d k).2 W (hg.below hB))
  clear h hh hg
  obtain ⟨zs, c, hr⟩ : ∃ zs c, sendR hs ts n d k = (zs, c) := ⟨_, _, rfl⟩
  rw [hr] at HC HT ⊢
  clear hr
  go_enter Tryd.func28, Tryd.ntmps28
  go_wp2_with fail
  refine HC.out.mono ?_; rintro e w1 ⟨a1, cap1, rfl, ho, hB⟩
  have HO := Lib.hid ho; have HB := Lib.hid hB
  have HT1 := Lib.hid (HT.out w1 hB); clear ho hB
  (try simp only at HT1 HO)
  go_wp2_with fail
  refine HT1.out.mono ?_; rintro e w2 ⟨rfl, hB⟩
  have HO2 := Lib.hid (HO.out.below hB); have HB2 := Lib.hid (HB.out.trans (hB.mono HB.out.size)); clear hB
  go_wp2_with fail
  go_ret2
  exact ⟨_, _, rfl, HO2.out, HB2.out⟩
end Go.Proofs.YtmnaacgeapldeaaDoor
/- Chapter 9's answers as the laws ask for them: in memory of their own. -/
namespace Go.Proofs.YtmnaacgeapldeaaDoor
open Go.RowKit Pure1 Pure2 Pure3 Pure20 Pure40

theorem build_new9 {zs : List Int} {c : Int} {w w' : World} {e : Ending} (h : ∃ v, e = .returned (.tuple #[v, .int .i64 c]) ∧ BuildI w.heap.size w' v zs ∧ Below w.heap.size w w') : SaysNew9 zs c w e w' := by
  obtain ⟨v, rfl, h1, hB⟩ := h
  obtain ⟨a, cap, rfl, _, ho⟩ := BuildI.own h1
  exact ⟨a, cap, rfl, ho, hB⟩
theorem SaysBI9.new9 {zs : List Int} {c : Int} {w w' : World} {e : Ending} (h : SaysBI9 zs c w e w') : SaysNew9 zs c w e w' := build_new9 h
theorem SaysBE9.new9 {zs : List Int} {c : Int} {w w' : World} {e : Ending} (h : SaysBE9 zs c w e w') : SaysNew9 zs c w e w' := build_new9 h
theorem SaysNew9.new9 {zs : List Int} {c : Int} {w w' : World} {e : Ending} (h : SaysNew9 zs c w e w') : SaysNew9 zs c w e w' := h
theorem ownI_kept {C : Nat} {w w' : World} {a : Option Addr} {len : Nat} {g : Nat → Int} {row : Option Nat} (h : OwnI C w a len g) (hg : w.grownBy w' row) (hrow : ∀ k, row = some k → k < C) : OwnI C w' a len g := by
  rcases h with h | ⟨b, f, N, e, hB, hN, hr, hf⟩
  · exact .inl h
  · exact .inr ⟨b, f, N, e, hB, hN, hr.of_block (hg.block b hr.lt (fun e => by have := hrow b e.symm; omega)), hf⟩
theorem ownI_mono {B C : Nat} {w : World} {a : Option Addr} {len : Nat} {g : Nat → Int} (h : OwnI C w a len g) (hBC : B ≤ C) : OwnI B w a len g := by
  rcases h with h | ⟨b, f, N, e, hB, h2⟩
  · exact .inl h
  · exact .inr ⟨b, f, N, e, by omega, h2⟩
/-- what marking the terms' copy in block b leaves of a row from block C on -/
theorem marked_grown {w w' : World} {b : Nat} (h : w' = w ∨ ∃ b', some (⟨b, 0, none⟩ : Addr) = some ⟨b', 0, none⟩ ∧ w.grownBy w' (some b')) : w.grownBy w' (some b) := by
  rcases h with rfl | ⟨b', e, h⟩
  · exact ⟨rfl, rfl, rfl, Nat.le_refl _, fun _ _ _ => rfl⟩
  · cases e; exact h
theorem sameI {w : World} {zs : List Int} {e : Ending} {w' : World} (h : SaysB (sameL zs zs) w e w') : e = .returned (.bool true) ∧ Below w.heap.size w w' := by
  have hs : sameL zs zs = true := by simp [sameL]
  rw [hs] at h
  obtain ⟨h1, n, rfl⟩ := h
  exact ⟨h1, Go.below_drewN (Below.refl _ _) n⟩

end Go.Proofs.YtmnaacgeapldeaaDoor
/- What a row that lists errors.errorType gives the walks, and a world in which that variable lies. -/
namespace Go.Proofs.YtmnaacgeapldeaaDoor
open Go.RowKit

theorem Tryd.etG : Tryd.prog.globalNamed "errors.errorType" = some 0 := by kernel_rfl
theorem Tryd.rtT : (Tryd.prog.cutTypes.find? (·.1 == "internal/reflectlite.rtype")).map (·.2) = some 119 := by kernel_rfl
theorem Tryd.oneError : ((List.range 166).filter fun t => Tryd.prog.rowNamed t [101, 114, 114, 111, 114]) = [56] := by kernel_rfl
theorem Tryd.typesN : Tryd.prog.types.size = 166 := by kernel_rfl

theorem type_of_laid {W : World} (h : laidMetH Tryd.prog [("errors.errorType", Rows.laid_errors_errorType)] W) : TypeAt W := by
  have h' : laidMet Tryd.prog [] W ∧ handlesMet Tryd.prog [("errors.errorType", Rows.laid_errors_errorType)] W := h
  obtain ⟨name, u, ty, e1, e2, e3, e4, e5⟩ := h'.2 _ (List.mem_singleton.2 rfl)
  have en : name = [101, 114, 114, 111, 114] := (Option.some.inj e1).symm
  subst en
  obtain rfl := Option.some.inj (Tryd.rtT.symm.trans e2)
  have hm : ty ∈ (List.range 166).filter fun t => Tryd.prog.rowNamed t [101, 114, 114, 111, 114] := List.mem_filter.2 ⟨List.mem_range.2 (by rw [← Tryd.typesN]; exact e3), e4⟩
  rw [Tryd.oneError] at hm
  obtain rfl := List.mem_singleton.1 hm
  have hh : typeHandle Tryd.prog 56 = .pointer (some ⟨1, 56, none⟩) := by kernel_rfl
  rw [hh] at e5
  simpa [TypeAt] using World.var?_cell Tryd.etG e5 0

/-- A world that meets the condition: the settled one, the variable's cell laid. -/
noncomputable def doorWorld (os : Os) : World :=
  let w0 := World.holding Tryd.prog os ⟨#[], #[], []⟩
  { w0 with heap := w0.heap.modify 0 fun
      | .cells _ t frozen => .cells #[.iface 119 (.agg #[.pointer (some ⟨1, 56, none⟩)])] t frozen
      | o => o }
end Go.Proofs.YtmnaacgeapldeaaDoor
