/- Contracts: impl.linksTo, impl.nextInChain. -/
import Derived.Test.YtdeiillfdjebdaaChecked
import Derived.Test.YtdeiillfdjebdaaBase
import Derived.Test.YtdeiillfdjebdaaInfo
import Derived.Test.YtdeiillfdjebdaaPure41
import Derived.Test.YtdeiillfdjebdaaPure51
import Derived.Test.YtdeiillfdjebdaaPersSlice
import Derived.Test.YtdeiillfdjebdaaArePers
import Derived.Test.YtdeiillfdjebdaaCode5
import Derived.Test.YtdeiillfdjebdaaTabB
import Derived.Test.YtdeiillfdjebdaaSteps5
import Derived.Test.YtdeiillfdjebdaaGroups5
import Derived.WalkKit
import Derived.WalkSpells
import Derived.WalkLawsBesides
import Derived.Lib.Hide
import Derived.Lib.QuietBelow
import Derived.IntWalk
import Derived.Deep.OwnRows
import Derived.Deep.QuietTactic
import Derived.BigQuiet
import Derived.Outline
namespace Go.Proofs.Ytdeiillfdjebdaa
open Go.RowKit Go.Sort Pure1 Pure2 Pure40 Pure41 Pure50 Pure51

theorem RowG.grown {B C b N len : Nat} {w0 w w' : World} {g : Nat → Int} {v : Value} {zs : List Int} (h : RowG B b N len w0 w g) (hv : BuildI C w v zs) (hg : w.grownBy w' v.ownBlock) (hbC : b < C) (hBC : B ≤ C) (hs : B ≤ w.heap.size) : RowG B b N len w0 w' g := by
  obtain ⟨h1, f, hr, hf⟩ := h
  exact ⟨hv.grew h1 hBC hs hg, f, hr.of_block (hg.block b hr.lt (fun e => by have := (hv.lt b e.symm).1; omega)), hf⟩
theorem BuildI.stored {C : Nat} {w : World} {v : Value} {zs : List Int} (h : BuildI C w v zs) {x : Addr} (hx : x.block < C) (u : Value) : BuildI C (w.setCell x u) v zs := ownsRow_setCell_below h hx u

set_option maxRecDepth 100000 in
set_option maxHeartbeats 4000000 in
theorem implLinks_any (a : Option Addr) (len cap : Nat) (ps : List Pers) (m : Int) (z : Nat) (w : World) (hl : ps.length = len) (hI : PersAt w a ps) (hP : arePers ps = true) (hz : z < len) :
    Calls Try.prog 66 #[.slice a len cap, .int .i64 m, .int .i64 (z : Int)] w (SaysO (dist (adj ps m) z) len w) := by
  have hm : len ≤ 12 := by have := arePers_len hP; omega
  have hA : ∀ i j, adj ps m i j = true → i < len ∧ j < len := fun i j h => by have := adj_lt h; omega
  have HAA := Lib.hid hA
  have HL := Lib.hid hl; have HI := Lib.hid hI; have HP := Lib.hid hP
  have hmk := run_make_row' (P := Try.prog) 37 2 (.int .i64 0) 8 Try.underlying37 Try.info_i64 rfl .i64 .i64 len (by omega) (by omega)
  have HR0 := Lib.hid (show RowG w.heap.size w.heap.size len len w (w.alloc (.cells (madeCells #[.int .i64 0] len) 2)) (fun _ => 0) from ⟨boxed _ _, _, World.rowIs_made _ _ _ _, fun x hx => rfl⟩)
  have hsz0 : w.heap.size + 1 ≤ (w.alloc (.cells (madeCells #[.int .i64 0] len) 2)).heap.size := by simp
  clear hl hI hP hA
  go_enter Try.func66, Try.ntmps66
  go_wp2
  generalize w.alloc (.cells (madeCells #[.int .i64 0] len) 2) = w0 at HR0 hsz0 ⊢
  obtain ⟨b, hbb⟩ : ∃ b, b = w.heap.size := ⟨_, rfl⟩
  rw [← hbb] at HR0 hsz0 ⊢
  have HBB := Lib.hid hbb; clear hbb hmk
  go_loopw [18] (fun c wr => ∃ k : Nat, k ≤ len ∧ c = .int .i64 k ∧ b + 1 ≤ wr.heap.size ∧ RowG b b len len w wr (fun x => if x < k then -1 else 0)) (fun c _ => len - (intOf c).toNat)
  case atStart => exact ⟨0, Nat.zero_le _, rfl, hsz0, HR0.out.congr (fun x hx => by rw [if_neg (by omega)])⟩
  case round =>
    obtain ⟨k, hk, rfl, hsz, hR⟩ := hrel
    clear HR0 hsz0
    have HR := Lib.hid hR; clear hR
    by_cases hlt : k < len
    · have hc := HR.out.cell (Nat.le_refl _) hlt
      have hf := HR.out.frozen k
      go_wp2_with fail
      go_roundw
      case rel => exact ⟨k + 1, by omega, by go_num, by simpa using hsz, (HR.out.set (Nat.le_refl _) k (-1)).congr (fun x hx => by
        by_cases e : x = k
        · rw [if_pos e, if_pos (by omega)]
        · rw [if_neg e]
          by_cases e2 : x < k
          · rw [if_pos e2, if_pos (by omega)]
          · rw [if_neg e2, if_neg (by omega)])⟩
      case measure => simp [intOf]; omega
    · obtain rfl : k = len := by omega
      have hc := HR.out.cell (Nat.le_refl _) hz; have hfz := HR.out.frozen z
      have HR1 := Lib.hid (show RowG b b k k w (wr.setCell ⟨b, z, none⟩ (.int .i64 0)) (qv (adj ps m) z [z]) from (HR.out.set (Nat.le_refl _) z 0).congr (fun x hx => by
        unfold qv
        by_cases e : x = z
        · subst e; rw [if_pos rfl, if_pos (by simp), dist_self]
        · rw [if_neg e, if_pos hx, if_neg (by simp [e])]))
      have hszq : b + 1 ≤ (wr.setCell ⟨b, z, none⟩ (.int .i64 0)).heap.size := by simpa using hsz
      have hs1 : (wr.setCell ⟨b, z, none⟩ (.int .i64 0)).heap.size = wr.heap.size := by simp
      go_wp2_with fail
      clear hc hfz
      generalize wr.setCell ⟨b, z, none⟩ (.int .i64 0) = w1 at HR1 hszq hs1 ⊢
      have HO2 := Lib.hid (BuildI.one (B := b + 1) (w := w1) (z : Int) hszq)
      rw [hs1] at HO2
      have HR2 := Lib.hid (HR1.out.grow (boxed w1 (.cells #[.int .i64 (z : Int)] 2)) (by omega))
      have hsz2 : b + 1 ≤ (w1.alloc (.cells #[.int .i64 (z : Int)] 2)).heap.size := by simp; omega
      clear HR HR1
      go_loopw [9, 10] (fun v c wr => ∃ (q : List Nat) (t : Nat), c = .int .i64 t ∧ t ≤ q.length ∧ Row (adj ps m) k z q t 0 ∧ b + 1 ≤ wr.heap.size ∧ BuildI (b + 1) wr v (toI q) ∧ RowG b b k k w wr (qv (adj ps m) z q)) (fun _ c _ => k + 1 - (intOf c).toNat)
      case atStart => exact ⟨[z], 0, rfl, by simp, Row.start hz, hsz2, HO2.out, HR2.out⟩
      case round =>
        obtain ⟨q, t, rfl, ht, hrow, hsz3, ho, hR⟩ := hrel
        clear HO2 HR2 hsz2 hszq
        have HO := Lib.hid ho; have HR := Lib.hid hR; have HW := Lib.hid hrow; have hql := hrow.len
        obtain ⟨a2, cap2, rfl, hcap, hown⟩ := ho.own
        rw [toI_length] at HO hown hcap ⊢
        have HN := Lib.hid hown
        clear ho hR hrow hown
        by_cases htq : t < q.length
        · obtain ⟨b2, e, hc2⟩ := HN.out.at htq
          subst e
          have hx : q[t]? = some q[t] := List.getElem?_eq_getElem htq
          generalize q[t] = x at hx
          rw [show (toI q).getD t 0 = (x : Int) by simp [List.getD, toI_at hx]] at hc2
          have hxk : x < k := (HW.out.mem x (List.mem_of_getElem? hx)).1
          have HX := Lib.hid hx; clear hx
          go_wp2_with fail
          go_loopw [9, 42] (fun v c wr => ∃ (q : List Nat) (i : Nat), i ≤ k ∧ c = .int .i64 i ∧ t < q.length ∧ q[t]? = some x ∧ Row (adj ps m) k z q t i ∧ b + 1 ≤ wr.heap.size ∧ BuildI (b + 1) wr v (toI q) ∧ RowG b b k k w wr (qv (adj ps m) z q)) (fun _ c _ => k - (intOf c).toNat)
          case atStart => exact ⟨q, 0, Nat.zero_le _, rfl, htq, HX.out, HW.out, hsz3, HO.out, HR.out⟩
          case round =>
            clear HO HR HW HN hc2 hcap hql htq ht HX
            obtain ⟨q, i, hi, rfl, htq, hx, hrow, hsz4, ho, hR⟩ := hrel
            have HO := Lib.hid ho; have HR := Lib.hid hR; have HW := Lib.hid hrow; have hql := hrow.len; have HX := Lib.hid hx
            clear ho hR hrow hx
            by_cases hlk : i < k
            · have hci := cell_regrown (HR.out.cell (Nat.le_refl _) hlk)
              by_cases hu : qv (adj ps m) z q i < 0
              · obtain ⟨b1, off, p, rfl, hc, hp⟩ := (HI.out.below (HBB.out ▸ HR.out.1)).at HL.out hlk
                obtain ⟨b', off', p2, e, hc2, hq⟩ := (HI.out.below (HBB.out ▸ HR.out.1)).at HL.out hxk
                cases e
                have hpp := arePers_at HP.out hp; have hqq := arePers_at HP.out hq
                obtain ⟨d0, d1, d2, d3, d4⟩ := hc
                obtain ⟨g0, g1, g2, g3, g4⟩ := hc2
                have k0 := cell_regrown d0; have k1 := cell_regrown d1; have k2 := cell_regrown d2; have k3 := cell_regrown d3; have k4 := cell_regrown d4
                have l0 := cell_regrown g0; have l1 := cell_regrown g1; have l2 := cell_regrown g2; have l3 := cell_regrown g3; have l4 := cell_regrown g4
                clear d0 d1 d2 d3 d4 g0 g1 g2 g3 g4
                have hcall := regr_call (w := wr) (fun W _ => show Calls Try.prog 72 #[.agg #[.int .i64 p.num, .string p.fst, .string p.lst, .int .i64 p.born, .int .i64 p.zone], .agg #[.int .i64 p2.num, .string p2.fst, .string p2.lst, .int .i64 p2.born, .int .i64 p2.zone], .int .i64 m] W _ from implIsAlike_any p.num p.fst p.lst p.born p.zone p2.num p2.fst p2.lst p2.born p2.zone m W hpp hqq)
                have heta : likeP ⟨p.num, p.fst, p.lst, p.born, p.zone⟩ ⟨p2.num, p2.fst, p2.lst, p2.born, p2.zone⟩ = likeP p p2 := rfl
                rw [heta] at hcall
                clear heta hpp hqq
                have HU := Lib.hid ((qv_neg HW.out).1 hu)
                have hud : decide (qv (adj ps m) z q i < 0) = true := decide_eq_true hu
                generalize qv (adj ps m) z q i = u at hci hu hud
                cases hd : decide (m ≤ likeP p p2)
                · have HAd := Lib.hid (show adj ps m x i = false by rw [adj_comm, adj_at hp hq]; exact hd)
                  rw [hd] at hcall
                  clear hd
                  go_wp2_with fail
                  refine wp_region_quiet_below (by kernel_rfl) (by kernel_rfl) ?_
                  iterate 17 (go_big_quiet_step (exact hcall _ _))
                  refine wpQuiet_nil ?_
                  intro _ hw'
                  obtain ⟨⟨dq, osq⟩, hw''⟩ := hw'
                  subst hw''
                  have hb5 := below_regrown wr dq osq
                  have HR5 := Lib.hid (HR.out.grow hb5 (by omega))
                  have HO5 := Lib.hid (HO.out.below hb5)
                  have hsz5 := Nat.le_trans hsz4 hb5.size
                  clear hcall k0 k1 k2 k3 k4 l0 l1 l2 l3 l4 hb5 HR hci hu hud HO
                  generalize grow (redrawn wr dq) osq = w5 at HR5 HO5 hsz5 ⊢
                  go_wp2_with fail
                  go_roundw
                  case rel => exact ⟨q, i + 1, by omega, by go_num, htq, HX.out, HW.out.skip HX.out (.inr HAd.out), hsz5, HO5.out, HR5.out⟩
                  case measure => simp [intOf]; omega
                · have HAd := Lib.hid (show adj ps m x i = true by rw [adj_comm, adj_at hp hq]; exact hd)
                  rw [hd] at hcall
                  clear hd
                  go_wp2_with fail
                  refine wp_region_quiet_below (by kernel_rfl) (by kernel_rfl) ?_
                  iterate 17 (go_big_quiet_step (exact hcall _ _))
                  refine wpQuiet_nil ?_
                  intro _ hw'
                  obtain ⟨⟨dq, osq⟩, hw''⟩ := hw'
                  subst hw''
                  have hb5 := below_regrown wr dq osq
                  have HR5 := Lib.hid (HR.out.grow hb5 (by omega))
                  have HO5 := Lib.hid (HO.out.below hb5)
                  have hsz5 := Nat.le_trans hsz4 hb5.size
                  clear hcall k0 k1 k2 k3 k4 l0 l1 l2 l3 l4 hb5 HR hci hu hud HO
                  generalize grow (redrawn wr dq) osq = w5 at HR5 HO5 hsz5 ⊢
                  have hxq : x ∈ q := List.mem_of_getElem? HX.out
                  have hdx := dist_lt HAA.out (b := z) hxk
                  have hdg := dist_ge (A := adj ps m) z x
                  have HD := Lib.hid (HW.out.dist HX.out HU.out HAd.out)
                  have hcx := HR5.out.cell (Nat.le_refl _) hxk
                  have hci5 := HR5.out.cell (Nat.le_refl _) hlk
                  have hfi5 := HR5.out.frozen i
                  rw [qv_in hxq] at hcx
                  clear hxq
                  generalize dist (adj ps m) z x = dx at hdx hdg HD hcx
                  have HR6 := Lib.hid ((HR5.out.set (Nat.le_refl _) i (dx + 1)).congr (fun y hy => (qv_add HD.out).symm))
                  have HO6 := Lib.hid (HO5.out.stored (x := ⟨b, i, none⟩) (Nat.lt_succ_self b) (.int .i64 (dx + 1)))
                  have hsz6 : b + 1 ≤ (w5.setCell ⟨b, i, none⟩ (.int .i64 (dx + 1))).heap.size := by simpa using hsz5
                  have HB7 := Lib.hid (boxed (w5.setCell ⟨b, i, none⟩ (.int .i64 (dx + 1))) (.cells #[.int .i64 (i : Int)] 2))
                  have HR7 := Lib.hid (HR6.out.grow HB7.out (by omega))
                  have HO7 := Lib.hid (HO6.out.below HB7.out)
                  have hsz7 := Nat.le_trans hsz6 HB7.out.size
                  have hc7 := cell_one (w5.setCell ⟨b, i, none⟩ (.int .i64 (dx + 1))) (.int .i64 (i : Int)) 2
                  have hszs : (w5.setCell ⟨b, i, none⟩ (.int .i64 (dx + 1))).heap.size = w5.heap.size := by simp
                  rw [hszs] at hc7
                  clear hszs
                  go_wp2_with (at_builtin; refine wpList_int_append rfl _ _ rfl _ _ rfl HO7.out w5.heap.size i rfl hc7 (by rw [toI_length]; omega) hsz7 ?_)
                  intro v' w8 ho8 hg8
                  have HO8 := Lib.hid (show BuildI (b + 1) w8 v' (toI (q ++ [i])) by rw [toI_append]; exact ho8)
                  have HR8 := Lib.hid (HR7.out.grown HO7.out hg8 (Nat.lt_succ_self b) (by omega) (by omega))
                  have hsz8 := Nat.le_trans hsz7 hg8.size
                  clear ho8 hg8 hc7 hcx hci5 hfi5
                  go_wp2_with fail
                  go_roundw
                  case rel => exact ⟨q ++ [i], i + 1, by omega, by go_num, by rw [List.length_append]; omega, by rw [List.getElem?_append_left htq]; exact HX.out, HW.out.add HX.out HU.out hlk HAd.out, hsz8, HO8.out, HR8.out⟩
                  case measure => simp [intOf]; omega
              · have HU := Lib.hid (show i ∈ q from Classical.byContradiction fun h => hu ((qv_neg HW.out).2 h))
                have hud : decide (qv (adj ps m) z q i < 0) = false := decide_eq_false hu
                generalize qv (adj ps m) z q i = u at hci hu hud
                go_wp2_with fail
                refine wp_region_quiet_below (by kernel_rfl) (by kernel_rfl) ?_
                iterate 17 (go_big_quiet_step (fail))
                refine wpQuiet_nil ?_
                intro _ hw'
                obtain ⟨⟨dq, osq⟩, hw''⟩ := hw'
                subst hw''
                have hb5 := below_regrown wr dq osq
                have HR5 := Lib.hid (HR.out.grow hb5 (by omega))
                have HO5 := Lib.hid (HO.out.below hb5)
                have hsz5 := Nat.le_trans hsz4 hb5.size
                clear hb5 HR hci hu hud HO
                generalize grow (redrawn wr dq) osq = w5 at HR5 HO5 hsz5 ⊢
                go_wp2_with fail
                go_roundw
                case rel => exact ⟨q, i + 1, by omega, by go_num, htq, HX.out, HW.out.skip HX.out (.inl HU.out), hsz5, HO5.out, HR5.out⟩
                case measure => simp [intOf]; omega
            · obtain rfl : i = k := by omega
              go_wp2_with fail
              go_roundw
              case rel => exact ⟨q, t + 1, by go_num, by omega, HW.out.turn HAA.out htq, hsz4, HO.out, HR.out⟩
              case measure => simp [intOf]; omega
        · have HF := Lib.hid ((HR.out.congr (fun x hx => HW.out.done (by omega) x)).own (Nat.le_refl _) (Nat.le_refl _))
          go_wp2_with fail
          go_ret
          exact ⟨_, _, rfl, HBB.out ▸ HF.out, HBB.out ▸ HR.out.1⟩

set_option maxRecDepth 100000 in
set_option maxHeartbeats 4000000 in
theorem implNext_any (a : Option Addr) (len cap : Nat) (ps : List Pers) (m : Int) (z x d : Nat) (a1 : Option Addr) (cap1 B : Nat) (w : World) (hl : ps.length = len) (hI : PersAt w a ps) (hP : arePers ps = true) (hx : x < len) (ho : OwnI B w a1 len (dist (adj ps m) z)) (hd : dist (adj ps m) z x = (d : Int) + 1) :
    Calls Try.prog 67 #[.slice a len cap, .int .i64 m, .slice a1 len cap1, .int .i64 (x : Int)] w (SaysI5 (nxt (adj ps m) z x : Int) w) := by
  have hm : len ≤ 12 := by have := arePers_len hP; omega
  obtain ⟨hn1, hn2, hn3⟩ := nxt_spec hd
  have hn : nxt (adj ps m) z x < len := by have := adj_lt hn2; omega
  have hdl : d ≤ 12 := by
    have := dist_lt (A := adj ps m) (n := len) (fun i j h => by have := adj_lt h; omega) (b := z) hx; omega
  generalize hnx : nxt (adj ps m) z x = y at hn1 hn2 hn3 hn
  have HL := Lib.hid hl; have HI := Lib.hid hI; have HP := Lib.hid hP; have HO := Lib.hid ho; have HX := Lib.hid hd
  have HN := Lib.hid (And.intro hn1 (And.intro hn2 hn3))
  clear hl hI hP ho hd hnx hn1 hn2 hn3
  go_enter Try.func67, Try.ntmps67
  go_wp2
  go_loopw [9] (fun c wr => ∃ k : Nat, k ≤ y ∧ c = .int .i64 k ∧ Below w.heap.size w wr) (fun c _ => y - (intOf c).toNat)
  case atStart => exact ⟨0, Nat.zero_le _, rfl, Below.refl _ _⟩
  case round =>
    obtain ⟨k, hk, rfl, hB⟩ := hrel
    have HB := Lib.hid hB; clear hB
    have hkl : k < len := by omega
    obtain ⟨b, e, hcx⟩ := (HO.out.below HB.out).at hx
    subst e
    obtain ⟨b2, e, hck⟩ := (HO.out.below HB.out).at hkl
    cases e
    rw [HX.out] at hcx
    have kx := cell_regrown hcx; have kk := cell_regrown hck
    clear hcx hck
    have he1 : (d : Int) + 1 - 1 = d := by omega
    by_cases hvk : dist (adj ps m) z k = d
    · rw [hvk] at kk
      obtain ⟨b1, off, p, rfl, hc, hp⟩ := (HI.out.below HB.out).at HL.out hkl
      obtain ⟨b', off', p2, e, hc2, hq⟩ := (HI.out.below HB.out).at HL.out hx
      cases e
      have hpp := arePers_at HP.out hp; have hqq := arePers_at HP.out hq
      obtain ⟨d0, d1, d2, d3, d4⟩ := hc
      obtain ⟨g0, g1, g2, g3, g4⟩ := hc2
      have k0 := cell_regrown d0; have k1 := cell_regrown d1; have k2 := cell_regrown d2; have k3 := cell_regrown d3; have k4 := cell_regrown d4
      have l0 := cell_regrown g0; have l1 := cell_regrown g1; have l2 := cell_regrown g2; have l3 := cell_regrown g3; have l4 := cell_regrown g4
      clear d0 d1 d2 d3 d4 g0 g1 g2 g3 g4
      have hcall := regr_call (w := wr) (fun W _ => show Calls Try.prog 72 #[.agg #[.int .i64 p.num, .string p.fst, .string p.lst, .int .i64 p.born, .int .i64 p.zone], .agg #[.int .i64 p2.num, .string p2.fst, .string p2.lst, .int .i64 p2.born, .int .i64 p2.zone], .int .i64 m] W _ from implIsAlike_any p.num p.fst p.lst p.born p.zone p2.num p2.fst p2.lst p2.born p2.zone m W hpp hqq)
      have heta : likeP ⟨p.num, p.fst, p.lst, p.born, p.zone⟩ ⟨p2.num, p2.fst, p2.lst, p2.born, p2.zone⟩ = likeP p p2 := rfl
      rw [heta] at hcall
      clear heta hpp hqq
      cases hd : decide (m ≤ likeP p p2)
      · have hky : k ≠ y := fun e => by
          have h1 := HN.out.2.1
          rw [← e, adj_at hp hq, hd] at h1; cases h1
        rw [hd] at hcall
        clear hd hp hq
        go_wp2_with fail
        refine wp_region_quiet_below (by kernel_rfl) (by kernel_rfl) ?_
        iterate 23 (go_big_quiet_step (exact hcall _ _))
        refine wpQuiet_nil ?_
        intro _ hw'
        obtain ⟨⟨dq, osq⟩, hw''⟩ := hw'
        subst hw''
        have HB5 := Lib.hid (HB.out.trans ((below_regrown wr dq osq).mono HB.out.size))
        clear hcall k0 k1 k2 k3 k4 l0 l1 l2 l3 l4 kx kk
        generalize grow (redrawn wr dq) osq = w5 at HB5 ⊢
        go_wp2_with fail
        go_roundw
        case rel => exact ⟨k + 1, by omega, by go_num, HB5.out⟩
        case measure => simp [intOf]; omega
      · have hky : k = y := Classical.byContradiction fun h => HN.out.2.2 k (by omega) ⟨hvk, by rw [adj_at hp hq]; exact hd⟩
        rw [hd] at hcall
        clear hd hp hq
        subst hky
        go_wp2_with fail
        refine wp_region_quiet_below (by kernel_rfl) (by kernel_rfl) ?_
        iterate 23 (go_big_quiet_step (exact hcall _ _))
        refine wpQuiet_nil ?_
        intro _ hw'
        obtain ⟨⟨dq, osq⟩, hw''⟩ := hw'
        subst hw''
        have HB5 := Lib.hid (HB.out.trans ((below_regrown wr dq osq).mono HB.out.size))
        clear hcall k0 k1 k2 k3 k4 l0 l1 l2 l3 l4 kx kk
        generalize grow (redrawn wr dq) osq = w5 at HB5 ⊢
        go_wp2_with fail
        go_ret
        exact ⟨rfl, HB5.out⟩
    · have hky : k ≠ y := fun e => hvk (by rw [e]; exact HN.out.1)
      have hne : (dist (adj ps m) z k != (d : Int)) = true := by rw [bne_iff_ne]; exact hvk
      clear hvk
      generalize dist (adj ps m) z k = u at kk hne
      go_wp2_with fail
      refine wp_region_quiet_below (by kernel_rfl) (by kernel_rfl) ?_
      iterate 23 (go_big_quiet_step (fail))
      refine wpQuiet_nil ?_
      intro _ hw'
      obtain ⟨⟨dq, osq⟩, hw''⟩ := hw'
      subst hw''
      have HB5 := Lib.hid (HB.out.trans ((below_regrown wr dq osq).mono HB.out.size))
      clear kx kk
      generalize grow (redrawn wr dq) osq = w5 at HB5 ⊢
      go_wp2_with fail
      go_roundw
      case rel => exact ⟨k + 1, by omega, by go_num, HB5.out⟩
      case measure => simp [intOf]; omega

end Go.Proofs.Ytdeiillfdjebdaa
