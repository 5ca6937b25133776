/- Contract: spec.l05Steps tells the least numbers of steps. -/
import Derived.Test.YtdeiillfdjebdaaChecked
import Derived.Test.YtdeiillfdjebdaaBase
import Derived.Test.YtdeiillfdjebdaaPure41
import Derived.Test.YtdeiillfdjebdaaPure51
import Derived.Test.YtdeiillfdjebdaaLike
import Derived.Test.YtdeiillfdjebdaaPersSlice
import Derived.Test.YtdeiillfdjebdaaArePers
import Derived.Test.YtdeiillfdjebdaaTabB
import Derived.WalkKit
import Derived.WalkSpells
import Derived.WalkLawsBesides
import Derived.Lib.Hide
import Derived.Lib.QuietBelow
import Derived.IntWalk
import Derived.Deep.OwnRows
import Derived.Deep.QuietTactic
import Derived.BigQuiet
import Derived.Outline
namespace Go.Proofs.Ytdeiillfdjebdaa
open Go.RowKit Go.Sort Pure1 Pure2 Pure40 Pure41 Pure50 Pure51

/-- a list of numbers of the call's own, told by their places -/
def SaysO (g : Nat → Int) (n : Nat) (w : World) (e : Ending) (w' : World) : Prop :=
  ∃ a cap, e = .returned (.slice a n cap) ∧ OwnI w.heap.size w' a n g ∧ Below w.heap.size w w'
/-- block b is a row of numbers that g tells; nothing below B has turned -/
def RowG (B b N len : Nat) (w0 w : World) (g : Nat → Int) : Prop :=
  Below B w0 w ∧ ∃ f, w.rowIs b 2 N f ∧ ∀ x, x < len → f x = .int .i64 (g x)
theorem RowG.grow {B b N len : Nat} {w0 w w' : World} {g : Nat → Int} (h : RowG B b N len w0 w g) (hb : Below w.heap.size w w') (hB : B ≤ w.heap.size) : RowG B b N len w0 w' g := by
  obtain ⟨h1, f, hr, hf⟩ := h
  exact ⟨h1.trans (hb.mono hB), f, hr.of_block (hb.block b hr.lt), hf⟩
theorem RowG.congr {B b N len : Nat} {w0 w : World} {g g' : Nat → Int} (h : RowG B b N len w0 w g) (he : ∀ x, x < len → g x = g' x) : RowG B b N len w0 w g' := by
  obtain ⟨h1, f, hr, hf⟩ := h
  exact ⟨h1, f, hr, fun x hx => by rw [hf x hx, he x hx]⟩
theorem RowG.set {B b N len : Nat} {w0 w : World} {g : Nat → Int} (h : RowG B b N len w0 w g) (hB : B ≤ b) (k : Nat) (y : Int) : RowG B b N len w0 (w.setCell ⟨b, k, none⟩ (.int .i64 y)) (fun x => if x = k then y else g x) := by
  obtain ⟨h1, f, hr, hf⟩ := h
  refine ⟨h1.setCell (show B ≤ (⟨b, k, none⟩ : Addr).block from hB) _, _, hr.set _ _, fun x hx => ?_⟩
  by_cases e : x = k
  · simp [e]
  · simp only [if_neg e]; exact hf x hx
theorem RowG.cell {B b N len : Nat} {w0 w : World} {g : Nat → Int} (h : RowG B b N len w0 w g) (hN : len ≤ N) {k : Nat} (hk : k < len) : w.cell? ⟨b, k, none⟩ = some (.int .i64 (g k)) := by
  obtain ⟨_, f, hr, hf⟩ := h
  rw [hr.cell (by omega), hf k hk]
theorem RowG.frozen {B b N len : Nat} {w0 w : World} {g : Nat → Int} (h : RowG B b N len w0 w g) (k : Nat) : w.frozen? ⟨b, k, none⟩ = false := by
  obtain ⟨_, f, hr, _⟩ := h
  exact hr.frozen k
theorem RowG.own {B b N len : Nat} {w0 w : World} {g : Nat → Int} (h : RowG B b N len w0 w g) (hN : len ≤ N) (hB : B ≤ b) : OwnI B w (some ⟨b, 0, none⟩) len g := by
  obtain ⟨_, f, hr, hf⟩ := h
  exact .inr ⟨b, f, N, rfl, hB, hN, hr, hf⟩
theorem beq_int {x y : Int} (h : x ≠ y) : (x == y) = false := beq_eq_false_iff_ne.2 h

set_option maxRecDepth 100000 in
set_option maxHeartbeats 4000000 in
theorem specSteps_any (a : Option Addr) (len cap : Nat) (ps : List Pers) (m : Int) (z : Nat) (w : World) (hl : ps.length = len) (hI : PersAt w a ps) (hP : arePers ps = true) (hz : z < len) :
    Calls Try.prog 69 #[.slice a len cap, .int .i64 m, .int .i64 (z : Int)] w (SaysO (dist (adj ps m) z) len w) := by
  have hm : len ≤ 12 := by have := arePers_len hP; omega
  have hA : ∀ i j, adj ps m i j = true → i < len ∧ j < len := fun i j h => by have := adj_lt h; omega
  have HAA := Lib.hid hA
  have HL := Lib.hid hl; have HI := Lib.hid hI; have HP := Lib.hid hP
  have HO0 := Lib.hid (BuildI.empty (B := w.heap.size) (w := w) (Nat.le_refl _)); have HB0 := Lib.hid (boxed w (.cells #[] 2))
  clear hl hI hP hA
  go_enter Try.func69, Try.ntmps69
  go_wp2
  go_loopw [7, 14] (fun v c wr => ∃ k : Nat, k ≤ len ∧ c = .int .i64 k ∧ BuildI w.heap.size wr v (List.replicate k (-1)) ∧ Below w.heap.size w wr) (fun _ c _ => len - (intOf c).toNat)
  case atStart => exact ⟨0, Nat.zero_le _, rfl, HO0.out, HB0.out⟩
  case round =>
    obtain ⟨k, hk, rfl, ho, hB⟩ := hrel
    have HO := Lib.hid ho; have HB := Lib.hid hB; clear ho hB HO0 HB0
    by_cases hlt : k < len
    · have hsz := HB.out.size
      have HO1 := Lib.hid (HO.out.alloc (.cells #[.int .i64 (-1)] 2))
      have HB1 := Lib.hid (HB.out.alloc hsz (.cells #[.int .i64 (-1)] 2))
      go_wp2_with (at_builtin; refine wpList_int_append rfl _ _ rfl _ _ rfl HO1.out wr.heap.size (-1) rfl ?c1 ?c2 ?c3 ?_)
      case c1 => have := BuildI.one (w := wr) (-1) (Nat.le_refl _); obtain ⟨_, _, e, _, h⟩ := this.own; cases e; obtain ⟨b, e, h2⟩ := h.at (n := 0) (by decide); cases e; exact h2
      case c2 => rw [List.length_replicate]; omega
      case c3 => simp; omega
      intro v' w5 ho5 hg5
      have HO5 := Lib.hid (show BuildI w.heap.size w5 v' (List.replicate (k + 1) (-1)) by rw [List.replicate_succ']; exact ho5)
      have HB5 := Lib.hid (HO1.out.grew HB1.out (Nat.le_refl _) (by simp; omega) hg5)
      clear ho5 hg5
      go_wp2_with fail
      go_roundw
      case rel => exact ⟨k + 1, by omega, by go_num, HO5.out, HB5.out⟩
      case measure => simp [intOf]; omega
    · obtain rfl : k = len := by omega
      obtain ⟨a2, cap2, hv, hcap, hown⟩ := HO.out.own
      rw [List.length_replicate] at hv hown
      rcases hown with h0 | ⟨b, f, N, rfl, hb, hN, hr, hf⟩
      · omega
      have HR0 := Lib.hid (show RowG w.heap.size b N k w wr (fun x => (List.replicate k (-1 : Int)).getD x 0) from ⟨HB.out, f, hr, hf⟩)
      subst hv
      clear hr hf HO HB
      have hc := HR0.out.cell hN hz; have hfz := HR0.out.frozen z
      have HR1 := Lib.hid (show RowG w.heap.size b N k w (wr.setCell ⟨b, z, none⟩ (.int .i64 0)) (lvl (adj ps m) z 0 0 0) from (HR0.out.set hb z 0).congr (fun x hx => by
        rw [lvl_first]
        by_cases e : x = z
        · rw [if_pos e, if_pos e]
        · rw [if_neg e, if_neg e]
          simp [List.getD, List.getElem?_replicate, hx]))
      have hszq : w.heap.size ≤ (wr.setCell ⟨b, z, none⟩ (.int .i64 0)).heap.size := HR1.out.1.size
      go_wp2_with fail
      clear hc hfz
      generalize wr.setCell ⟨b, z, none⟩ (.int .i64 0) = w1 at HR1 hszq ⊢
      clear HR0
      go_loopw [8] (fun c wr => ∃ l : Nat, l ≤ k ∧ c = .int .i64 l ∧ RowG w.heap.size b N k w wr (lvl (adj ps m) z l 0 0)) (fun c _ => k - (intOf c).toNat)
      case atStart => exact ⟨0, Nat.zero_le _, rfl, HR1.out⟩
      case round =>
        obtain ⟨l, hl, rfl, hR⟩ := hrel
        have HR := Lib.hid hR; clear hR HR1
        by_cases hll : l < k
        · go_wp2_with fail
          go_loopw [9] (fun c wr => ∃ i : Nat, i ≤ k ∧ c = .int .i64 i ∧ RowG w.heap.size b N k w wr (lvl (adj ps m) z l i 0)) (fun c _ => k - (intOf c).toNat)
          case atStart => exact ⟨0, Nat.zero_le _, rfl, HR.out⟩
          case round =>
            obtain ⟨i, hi, rfl, hR⟩ := hrel
            clear HR
            have HR := Lib.hid hR; clear hR
            by_cases hli : i < k
            · go_wp2_with fail
              go_loopw [10] (fun c wr => ∃ j : Nat, j ≤ k ∧ c = .int .i64 j ∧ RowG w.heap.size b N k w wr (lvl (adj ps m) z l i j)) (fun c _ => k - (intOf c).toNat)
              case atStart => exact ⟨0, Nat.zero_le _, rfl, HR.out⟩
              case round =>
                obtain ⟨j, hj, rfl, hR⟩ := hrel
                clear HR
                have HR := Lib.hid hR; clear hR
                by_cases hlj : j < k
                · have hci := cell_regrown (HR.out.cell hN hli)
                  have hcj := cell_regrown (HR.out.cell hN hlj)
                  go_wp2_with fail
                  by_cases hvi : dist (adj ps m) z i = l
                  · rw [show lvl (adj ps m) z l i j i = (l : Int) from lvl_is.2 hvi] at hci
                    by_cases hu : lvl (adj ps m) z l i j j < 0
                    · obtain ⟨b1, off, p, rfl, hc, hp⟩ := (HI.out.below (HR.out.1)).at HL.out hli
                      obtain ⟨b', off', q, e, hc2, hq⟩ := (HI.out.below (HR.out.1)).at HL.out hlj
                      cases e
                      have hpp := arePers_at HP.out hp; have hqq := arePers_at HP.out hq
                      obtain ⟨d0, d1, d2, d3, d4⟩ := hc
                      obtain ⟨g0, g1, g2, g3, g4⟩ := hc2
                      have k0 := cell_regrown d0; have k1 := cell_regrown d1; have k2 := cell_regrown d2; have k3 := cell_regrown d3; have k4 := cell_regrown d4
                      have l0 := cell_regrown g0; have l1 := cell_regrown g1; have l2 := cell_regrown g2; have l3 := cell_regrown g3; have l4 := cell_regrown g4
                      clear d0 d1 d2 d3 d4 g0 g1 g2 g3 g4
                      have hcall := regr_call (w := wr) (fun W _ => show Calls Try.prog 59 #[.agg #[.int .i64 p.num, .string p.fst, .string p.lst, .int .i64 p.born, .int .i64 p.zone], .agg #[.int .i64 q.num, .string q.fst, .string q.lst, .int .i64 q.born, .int .i64 q.zone]] W _ from specLike_any p.num p.fst p.lst p.born p.zone q.num q.fst q.lst q.born q.zone W hpp hqq)
                      have heta : likeP ⟨p.num, p.fst, p.lst, p.born, p.zone⟩ ⟨q.num, q.fst, q.lst, q.born, q.zone⟩ = likeP p q := rfl
                      rw [heta] at hcall
                      clear heta hpp hqq
                      have HU := Lib.hid hu; have HV := Lib.hid hvi
                      have hud : decide (lvl (adj ps m) z l i j j < 0) = true := decide_eq_true hu
                      generalize lvl (adj ps m) z l i j j = u at hcj hu hud
                      cases hd : decide (m ≤ likeP p q)
                      · have HAd := Lib.hid (show adj ps m i j = false by rw [adj_at hp hq]; exact hd)
                        have hd2 : ¬ m ≤ likeP p q := of_decide_eq_false hd
                        generalize likeP p q = L at hcall hd hd2
                        refine wp_region_quiet_below (by kernel_rfl) (by kernel_rfl) ?_
                        iterate 26 (go_big_quiet_step (exact hcall _ _))
                        refine wpQuiet_nil ?_
                        intro _ hw'
                        obtain ⟨⟨dq, osq⟩, hw''⟩ := hw'
                        subst hw''
                        have hb5 := below_regrown wr dq osq
                        have HR5 := Lib.hid (HR.out.grow hb5 HR.out.1.size)
                        clear hcall k0 k1 k2 k3 k4 l0 l1 l2 l3 l4 hb5 HR hci hcj hu hud
                        generalize grow (redrawn wr dq) osq = w5 at HR5 ⊢
                        go_wp2_with fail
                        go_roundw
                        case rel => exact ⟨j + 1, by omega, by go_num, HR5.out.congr (fun x hx => (lvl_no (.inr (.inr HAd.out)) x).symm)⟩
                        case measure => simp [intOf]; omega
                      · have HAd := Lib.hid (show adj ps m i j = true by rw [adj_at hp hq]; exact hd)
                        have hd2 : m ≤ likeP p q := of_decide_eq_true hd
                        generalize likeP p q = L at hcall hd hd2
                        refine wp_region_quiet_below (by kernel_rfl) (by kernel_rfl) ?_
                        iterate 26 (go_big_quiet_step (exact hcall _ _))
                        refine wpQuiet_nil ?_
                        intro _ hw'
                        obtain ⟨⟨dq, osq⟩, hw''⟩ := hw'
                        subst hw''
                        have hb5 := below_regrown wr dq osq
                        have HR5 := Lib.hid (HR.out.grow hb5 HR.out.1.size)
                        clear hcall k0 k1 k2 k3 k4 l0 l1 l2 l3 l4 hb5 HR hci hcj hu hud
                        generalize grow (redrawn wr dq) osq = w5 at HR5 ⊢
                        have hc5 := HR5.out.cell hN hlj; have hf5 := HR5.out.frozen j
                        go_wp2_with fail
                        go_roundw
                        case rel => exact ⟨j + 1, by omega, by go_num, (HR5.out.set hb j _).congr (fun x hx => (lvl_yes HV.out HU.out HAd.out x).symm)⟩
                        case measure => simp [intOf]; omega
                    · have HU := Lib.hid hu
                      have hud : decide (lvl (adj ps m) z l i j j < 0) = false := decide_eq_false hu
                      generalize lvl (adj ps m) z l i j j = u at hcj hu hud
                      refine wp_region_quiet_below (by kernel_rfl) (by kernel_rfl) ?_
                      iterate 26 (go_big_quiet_step (fail))
                      refine wpQuiet_nil ?_
                      intro _ hw'
                      obtain ⟨⟨dq, osq⟩, hw''⟩ := hw'
                      subst hw''
                      have hb5 := below_regrown wr dq osq
                      have HR5 := Lib.hid (HR.out.grow hb5 HR.out.1.size)
                      clear hb5 HR hci hcj hu hud
                      generalize grow (redrawn wr dq) osq = w5 at HR5 ⊢
                      go_wp2_with fail
                      go_roundw
                      case rel => exact ⟨j + 1, by omega, by go_num, HR5.out.congr (fun x hx => (lvl_no (.inr (.inl (by have := HU.out; omega))) x).symm)⟩
                      case measure => simp [intOf]; omega
                  · have HV := Lib.hid hvi
                    have hvb : (lvl (adj ps m) z l i j i == (l : Int)) = false := beq_int (fun e => hvi (lvl_is.1 e))
                    clear hvi
                    generalize lvl (adj ps m) z l i j i = u at hci hvb
                    refine wp_region_quiet_below (by kernel_rfl) (by kernel_rfl) ?_
                    iterate 26 (go_big_quiet_step (fail))
                    refine wpQuiet_nil ?_
                    intro _ hw'
                    obtain ⟨⟨dq, osq⟩, hw''⟩ := hw'
                    subst hw''
                    have hb5 := below_regrown wr dq osq
                    have HR5 := Lib.hid (HR.out.grow hb5 HR.out.1.size)
                    clear hb5 HR hci hcj hvb
                    generalize grow (redrawn wr dq) osq = w5 at HR5 ⊢
                    go_wp2_with fail
                    go_roundw
                    case rel => exact ⟨j + 1, by omega, by go_num, HR5.out.congr (fun x hx => (lvl_no (.inl HV.out) x).symm)⟩
                    case measure => simp [intOf]; omega
                · obtain rfl : j = k := by omega
                  go_wp2_with fail
                  go_roundw
                  case rel => exact ⟨i + 1, by omega, by go_num, HR.out.congr (fun x hx => lvl_row hx)⟩
                  case measure => simp [intOf]; omega
            · obtain rfl : i = k := by omega
              go_wp2_with fail
              go_roundw
              case rel => exact ⟨l + 1, by omega, by go_num, HR.out.congr (fun x hx => lvl_next HAA.out)⟩
              case measure => simp [intOf]; omega
        · obtain rfl : l = k := by omega
          have HF := Lib.hid ((HR.out.congr (fun x hx => lvl_last HAA.out hx)).own hN hb)
          go_wp2_with fail
          go_ret
          exact ⟨_, _, rfl, HF.out, HR.out.1⟩

end Go.Proofs.Ytdeiillfdjebdaa
