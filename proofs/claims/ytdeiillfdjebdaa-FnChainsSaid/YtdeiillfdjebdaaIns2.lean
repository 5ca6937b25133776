/- Contract: spec.l04Insert puts a person into a list. -/
import Derived.Test.YtdeiillfdjebdaaChecked
import Derived.Test.YtdeiillfdjebdaaBase
import Derived.Test.YtdeiillfdjebdaaPure40
import Derived.Test.YtdeiillfdjebdaaPersLaw
import Derived.Test.YtdeiillfdjebdaaPersSlice
import Derived.Test.YtdeiillfdjebdaaGood4
import Derived.Test.YtdeiillfdjebdaaFacts2
import Derived.Test.YtdeiillfdjebdaaIns
import Derived.WalkKit
import Derived.WalkSpells
import Derived.WalkLawsBesides
import Derived.Lib.Hide
import Derived.IntWalk
import Derived.Deep.OwnRows
import Derived.Deep.MidRow
import Derived.Deep.QuietTactic
import Derived.BigQuiet
import Derived.Outline
namespace Go.Proofs.Ytdeiillfdjebdaa
open Go.RowKit Pure1 Pure40
set_option linter.unusedSimpArgs false

theorem OwnP.drew {w : World} {B n : Nat} {v : Value} {ps : List Pers} (h : OwnP w B v ps) : OwnP (w.drewN n) B v ps := h.below (Go.below_drewN (Below.refl _ _) n)
theorem InsG.alloc {B : Nat} {w1 w : World} (h : InsG B w1 w) (o : Obj) (hB : B ≤ w1.heap.size) : InsG B w1 (w.alloc o) := ⟨h.1.alloc (Nat.le_trans hB h.2) o, by simp; exact Nat.le_succ_of_le h.2⟩
theorem InsG.grown {B : Nat} {w1 w w' : World} {v : Value} {ps : List Pers} (h : InsG B w1 w) (ho : OwnP w B v ps) (hg : w.grownBy w' v.ownBlock) (hB : B ≤ w1.heap.size) : InsG B w1 w' :=
  ⟨h.1.grown hg (Nat.le_trans hB h.2) (fun k hk => (ho.2.lt k hk).1), Nat.le_trans h.2 hg.size⟩
theorem insert_small {ps : List Pers} {p : Pers} {k : Nat} (hs : ∀ q ∈ ps, Small q) (hp : Small p) : ∀ q ∈ ps.take k ++ [p] ++ ps.drop k, Small q := by
  intro q hq
  simp only [List.mem_append, List.mem_singleton] at hq
  rcases hq with (hq | rfl) | hq
  · exact hs q (List.mem_of_mem_take hq)
  · exact hp
  · exact hs q (List.mem_of_mem_drop hq)
theorem insert_len {ps : List Pers} {p : Pers} {k : Nat} (hk : k ≤ ps.length) : (ps.take k ++ [p] ++ ps.drop k).length = ps.length + 1 := by
  simp only [List.length_append, List.length_take, List.length_drop, List.length_singleton]; omega

/-- a list of our own is handed out -/
def GaveL (B : Nat) (m : Nat) (w : World) (e : Ending) (w' : World) : Prop := ∃ v qs, e = .returned v ∧ OwnP w' B v qs ∧ qs.length ≤ m ∧ (∀ q ∈ qs, Small q) ∧ Below w.heap.size w w'

set_option maxRecDepth 100000 in
set_option maxHeartbeats 4000000 in
theorem specInsert_any (B g cap : Nat) (ps : List Pers) (p : Pers) (w : World) (hown : OwnP w B (.slice (some ⟨g, 0, none⟩) ps.length cap) ps) (hl : ps.length ≤ 100) (hs : ∀ q ∈ ps, Small q) (hp : Small p) :
    Calls Try.prog 83 #[.slice (some ⟨g, 0, none⟩) ps.length cap, .agg #[.int .i64 p.num, .string p.fst, .string p.lst, .int .i64 p.born, .int .i64 p.zone]] w (GaveL B (ps.length + 1) w) := by
  obtain ⟨hBg, hgw⟩ := hown.2.lt g rfl
  have hW := boxed w (.cells #[.int .i64 p.num, .string p.fst, .string p.lst, .int .i64 p.born, .int .i64 p.zone] 51)
  have HA := Lib.hid (atB_box w p.num p.fst p.lst p.born p.zone 51)
  have HO := Lib.hid (hown.below hW); have HB := Lib.hid hW
  have HS := Lib.hid hs; have HP := Lib.hid hp
  have hcap : ps.length ≤ cap ∧ cap ≤ maxLen := by
    rcases hown.2.2 with ⟨h, _⟩ | ⟨g', cap', cur, h, _, _, h1, h2, _⟩
    · cases h
    · cases h; exact ⟨h1, h2⟩
  unfold maxLen at hcap
  clear hown hW hs hp
  go_enter Try.func83, Try.ntmps83
  go_wp2_with fail
  have hsz1 : (w.alloc (.cells #[.int .i64 p.num, .string p.fst, .string p.lst, .int .i64 p.born, .int .i64 p.zone] 51)).heap.size = w.heap.size + 1 := by simp
  generalize w.alloc (.cells #[.int .i64 p.num, .string p.fst, .string p.lst, .int .i64 p.born, .int .i64 p.zone] 51) = w1 at HA HO HB hsz1 ⊢
  obtain ⟨bx, hbx⟩ : ∃ bx, w.heap.size = bx := ⟨_, rfl⟩
  have HB' := Lib.hid (show Below bx w w1 by rw [← hbx]; exact HB.out)
  have HX := Lib.hid hbx
  rw [hbx] at HA hgw hsz1 ⊢
  clear hbx HB
  go_loopw [5] (fun i wr => ∃ k n : Nat, k ≤ ps.length ∧ i = .int .i64 k ∧ wr = w1.drewN n) (fun i _ => ps.length - (intOf i).toNat)
  case atStart => exact ⟨0, 0, Nat.zero_le _, rfl, rfl⟩
  case round =>
    obtain ⟨k, n, hk, rfl, rfl⟩ := hrel
    obtain ⟨k0, k1, k2, k3, k4⟩ := HA.out
    simp only at k0
    clear k1 k2 k3 k4
    by_cases hlt : k < ps.length
    · obtain ⟨q, hq⟩ : ∃ q, ps[k]? = some q := ⟨_, List.getElem?_eq_getElem hlt⟩
      obtain ⟨c0, c1, c2, c3, c4⟩ := HO.out.at hq
      clear c1 c2 c3 c4 hq
      have d1 : decide (k < ps.length) = true := decide_eq_true hlt
      by_cases hn : q.num < p.num
      · have d2 : decide (q.num < p.num) = true := decide_eq_true hn
        go_wp2_with fail
        go_quiet (fail)
        go_wp2_with fail
        go_roundw
        case rel => exact ⟨k + 1, _, by omega, by go_num, rfl⟩
        case measure => simp [intOf]; omega
      · have d2 : decide (q.num < p.num) = false := decide_eq_false hn
        go_wp2_with fail
        go_quiet (fail)
        by_cases he : q.num = p.num
        · have d3 : (q.num == p.num) = true := beq_iff_eq.2 he
          clear he hn d2
          go_wp2_with fail
          go_quiet (fail)
          go_wp2_with fail
          go_ret
          exact ⟨_, _, rfl, HO.out.drew.drew.drew, by omega, HS.out, by rw [HX.out]; exact Go.below_drewN (Go.below_drewN (Go.below_drewN HB'.out _) _) _⟩
        · have d3 : (q.num == p.num) = false := beq_eq_false_iff_ne.2 he
          clear he hn d2
          go_wp2_with fail
          go_quiet (fail)
          go_wp2_with fail
          clear d1 d3 c0 k0
          refine wp_region_facts2 (sz := 49) [0, 3, 5] (by kernel_rfl) (by kernel_rfl) (by kernel_rfl) insGone insKeep (by kernel_rfl) (by kernel_rfl) (InsG (bx + 1) w1) (InsR (bx + 1)) (InsF (bx + 1) g cap k p ps) rfl ⟨Below.drew (by repeat' (first | exact Below.refl _ _ | refine Go.below_drewN ?_ _)), by simp⟩ ?_ ?_ ?_
          · intro i j v w2 w3 hi hj hkp hf hR
            have hi : i < 13 := hi; have hj : j < 13 := hj
            simp only [InsR] at hR
            by_cases h7 : i = 7 ∨ i = 11
            · rw [if_pos h7] at hR
              have hj2 : ¬ (j = 0 ∨ j = 4 ∨ j = 6 ∨ j = 7 ∨ j = 11 ∨ j = 12) := by
                intro h
                have : insKeep i j = false := by rcases h7 with rfl | rfl <;> rcases h with rfl | rfl | rfl | rfl | rfl | rfl <;> rfl
                rw [this] at hkp; cases hkp
              unfold InsF at hf ⊢
              split at hf <;> first | exact hf | (exfalso; omega)
            · rw [if_neg h7] at hR
              by_cases h4 : i = 4
              · rw [if_pos h4] at hR
                subst h4
                have hj2 : ¬ (j = 0 ∨ j = 4) := by
                  rintro (rfl | rfl) <;> cases hkp
                obtain ⟨g0, he, hg⟩ := hR
                unfold InsF at hf ⊢
                split at hf <;> first | exact hf | (exfalso; omega) | exact hf.other (by simp) he hg
              · rw [if_neg h4] at hR
                unfold InsF at hf ⊢
                split at hf <;> first | exact hf | exact hf.below hR | exact ⟨hf.1, hf.2.below hR⟩ | trivial
          · intro i o ho
            have hold : ∀ W, InsG (bx + 1) w1 W → OwnP W B (.slice (some ⟨g, 0, none⟩) ps.length cap) ps := fun W h => HO.out.below (by rw [hsz1]; exact h.1)
            have hbox : ∀ W, InsG (bx + 1) w1 W → AtB W bx p := fun W h => HA.out.below (by rw [hsz1]; exact h.1)
            have hbw : ∀ W, InsG (bx + 1) w1 W → bx + 1 ≤ W.heap.size := fun W h => by rw [← hsz1]; exact h.2
            match i, ho with
            | 0, ho =>
              cases ho
              intro ev w' hc hfn hb hG hd
              refine stepTo_gen fun K' hK => ?_
              simp [go_sem, stepTo, hc, hfn]
              exact hK _ _ ⟨hG.alloc _ (by omega), boxed _ _, (fun h => by cases h), ⟨_, rfl⟩, ⟨_, _, rfl⟩, World.ownsRow_lit w' #[] 0 (hbw w' hG) (by decide) rfl⟩
            | 1, ho | 8, ho =>
              cases ho
              intro ev w' hc hfn hb hG hd
              have h0 : ev (.tmp 0) = .slice (some ⟨g, 0, none⟩) ps.length cap := hb 0 (by simp)
              refine stepTo_gen fun K' hK => ?_
              simp [go_sem, stepTo, hc, hfn, h0]
              exact hK _ _ ⟨hG, Below.refl _ _, (fun h => by cases h), rfl⟩
            | 2, ho | 9, ho =>
              cases ho
              intro ev w' hc hfn hb hG hd
              have h0 : ev (.tmp 5) = .int .i64 (k : Int) := hb 5 (by simp)
              refine stepTo_gen fun K' hK => ?_
              simp [go_sem, stepTo, hc, hfn, h0]
              exact hK _ _ ⟨hG, Below.refl _ _, (fun h => by cases h), rfl⟩
            | 3, ho =>
              cases ho
              intro ev w' hc hfn hb hG hd
              have h1 : ev (.tmp 38) = .slice (some ⟨g, 0, none⟩) ps.length cap := hd { on := 1, ground := .data } (by simp) rfl rfl _ rfl
              have h2 : ev (.tmp 39) = .int .i64 (k : Int) := hd { on := 2, ground := .data } (by simp) rfl rfl _ rfl
              have hkc : k ≤ cap := by omega
              refine stepTo_gen fun K' hK => ?_
              simp [go_sem, stepTo, hc, hfn, h1, h2, hk, hkc]
              exact hK _ _ ⟨hG, Below.refl _ _, (fun h => by cases h), _, rfl⟩
            | 4, ho =>
              cases ho
              intro ev w' hc hfn hb hG hd
              obtain ⟨⟨g0, e0⟩, h1⟩ : (∃ g0, ev (.tmp 37) = .slice (some ⟨g0, 0, none⟩) 0 0) ∧ OwnP w' (bx + 1) (ev (.tmp 37)) [] := hd { on := 0, ground := .data } (by simp) rfl rfl _ rfl
              obtain ⟨c, h2⟩ : ∃ c, ev (.tmp 40) = .slice (some ⟨g, 0, none⟩) k c := hd { on := 3, ground := .data } (by simp) rfl rfl _ rfl
              have hlk : (ps.take k).length = k := by rw [List.length_take]; omega
              obtain ⟨v', w'', hr, hO, hg⟩ := own_append 24 h1 ⟨g, 0, none⟩ c (qs := ps.take k) (fun j u hu => by
                rw [Addr.add_mid, Nat.zero_add]
                rw [flat_take] at hu
                have hu' : (flatP ps)[j]? = some u := by
                  rw [List.getElem?_take] at hu; split at hu
                  · exact hu
                  · cases hu
                exact (hold w' hG).cell hu') (by rw [hlk]; simp; omega) (hbw w' hG)
              rw [hlk] at hr
              refine stepTo_gen fun K' hK => step_append (s := .tmp 37) (x := .tmp 40) (t := 24) rfl (by rw [h2]; exact hr) (hK _ _ ⟨hG.grown h1 hg (by omega), ?_, (fun h => by cases h), hO⟩)
              have hg0 : w'.grownBy w'' (some g0) := by have := hg; rw [e0] at this; exact this
              refine ⟨g0, ?_, hg0⟩
              rcases h1.2.2 with ⟨e1, _⟩ | ⟨g1, cap1, cur1, e1, _, h5, _, _, h7, _⟩
              · rw [e0] at e1; cases e1
              · rw [e0] at e1; cases e1; exact ⟨_, _, h5, by rw [h7]⟩
            | 5, ho =>
              cases ho
              intro ev w' hc hfn hb hG hd
              have h1 : ev (.tmp 3) = .pointer (some ⟨bx, 0, none⟩) := hb 3 (by simp)
              obtain ⟨c0, c1, c2, c3, c4⟩ := hbox w' hG
              refine stepTo_gen fun K' hK => ?_
              simp [go_sem, stepTo, hc, hfn, h1, c0, c1, c2, c3, c4]
              exact hK _ _ ⟨hG, Below.refl _ _, (fun h => by cases h), rfl⟩
            | 6, ho =>
              cases ho
              intro ev w' hc hfn hb hG hd
              have h1 : ev (.tmp 42) = .agg #[.int .i64 p.num, .string p.fst, .string p.lst, .int .i64 p.born, .int .i64 p.zone] := hd { on := 5, ground := .data } (by simp) rfl rfl _ rfl
              refine stepTo_gen fun K' hK => ?_
              simp [go_sem, stepTo, hc, hfn, h1]
              exact hK _ _ ⟨hG.alloc _ (by omega), boxed _ _, (fun h => by cases h), ⟨_, _, rfl⟩, World.ownsRow_lit w' #[.int .i64 p.num, .string p.fst, .string p.lst, .int .i64 p.born, .int .i64 p.zone] 1 (hbw w' hG) (by decide) rfl⟩
            | 7, ho =>
              cases ho
              intro ev w' hc hfn hb hG hd
              have h1 : OwnP w' (bx + 1) (ev (.tmp 41)) (ps.take k) := hd { on := 4, ground := .data } (by simp) rfl rfl _ rfl
              have h2 : OwnP w' (bx + 1) (ev (.tmp 43)) [p] := hd { on := 6, ground := .data } (by simp) rfl rfl _ rfl
              obtain ⟨g2, c2, e2⟩ := h2.1
              rw [e2] at h2
              obtain ⟨v', w'', hr, hO, hg⟩ := own_append 24 h1 ⟨g2, 0, none⟩ c2 (qs := [p]) (fun j u hu => by rw [Addr.add_mid, Nat.zero_add]; exact h2.cell hu) (by rw [List.length_take]; simp; omega) (hbw w' hG)
              have e2' : ev (.tmp 43) = .slice (some ⟨g2, 0, none⟩) 1 c2 := e2
              have hr' : (Builtin.append_ #[24, 24] 24 #[ev (.tmp 41), .slice (some ⟨g2, 0, none⟩) 1 c2]).run Try.prog w' = .ok v' w'' := hr
              refine stepTo_gen fun K' hK => step_append (s := .tmp 41) (x := .tmp 43) (t := 24) rfl (by rw [e2']; exact hr') ?_
              exact hK _ _ ⟨hG.grown h1 hg (by omega), (Below.refl _ _).grown hg (hbw w' hG) (fun j hj => (h1.2.lt j hj).1), (fun h => by cases h), hO⟩
            | 10, ho =>
              cases ho
              intro ev w' hc hfn hb hG hd
              have h1 : ev (.tmp 45) = .slice (some ⟨g, 0, none⟩) ps.length cap := hd { on := 8, ground := .data } (by simp) rfl rfl _ rfl
              have h2 : ev (.tmp 46) = .int .i64 (k : Int) := hd { on := 9, ground := .data } (by simp) rfl rfl _ rfl
              have hkc : k ≤ cap := by omega
              by_cases hck : cap = k
              · have hdn : ps.drop k = [] := List.drop_of_length_le (by omega)
                refine stepTo_gen fun K' hK => ?_
                simp [go_sem, stepTo, hc, hfn, h1, h2, hk, hkc, hck]
                exact hK _ _ ⟨hG, Below.refl _ _, (fun h => by cases h), _, _, rfl, .inr hdn⟩
              · refine stepTo_gen fun K' hK => ?_
                simp [go_sem, stepTo, hc, hfn, h1, h2, hk, hkc, hck]
                exact hK _ _ ⟨hG, Below.refl _ _, (fun h => by cases h), _, _, rfl, .inl rfl⟩
            | 11, ho =>
              cases ho
              intro ev w' hc hfn hb hG hd
              have h1 : OwnP w' (bx + 1) (ev (.tmp 44)) (ps.take k ++ [p]) := hd { on := 7, ground := .data } (by simp) rfl rfl _ rfl
              obtain ⟨c, off, h2, hoff⟩ : ∃ c off, ev (.tmp 47) = .slice (some ⟨g, off, none⟩) (ps.length - k) c ∧ (off = k * 5 ∨ ps.drop k = []) := hd { on := 10, ground := .data } (by simp) rfl rfl _ rfl
              have hlk : (ps.drop k).length = ps.length - k := List.length_drop
              obtain ⟨v', w'', hr, hO, hg⟩ := own_append 24 h1 ⟨g, off, none⟩ c (qs := ps.drop k) (fun j u hu => by
                rw [Addr.add_mid]
                rcases hoff with rfl | hoff
                case inr => rw [hoff] at hu; simp [flatP] at hu
                rw [flat_drop, List.getElem?_drop] at hu
                exact (hold w' hG).cell hu) (by simp only [List.length_append, List.length_take, List.length_drop, List.length_singleton]; omega) (hbw w' hG)
              rw [hlk] at hr
              refine stepTo_gen fun K' hK => step_append (s := .tmp 44) (x := .tmp 47) (t := 24) rfl (by rw [h2]; exact hr) ?_
              exact hK _ _ ⟨hG.grown h1 hg (by omega), (Below.refl _ _).grown hg (hbw w' hG) (fun j hj => (h1.2.lt j hj).1), (fun h => by cases h), hO⟩
            | 12, ho =>
              cases ho
              intro ev w' hc hfn hb hG hd
              have h1 : OwnP w' (bx + 1) (ev (.tmp 48)) (ps.take k ++ [p] ++ ps.drop k) := hd { on := 11, ground := .data } (by simp) rfl rfl _ rfl
              refine stepTo_gen fun K' hK => ?_
              simp [go_sem, stepTo, hc, hfn]
              exact hK _ _ ⟨hG, Below.refl _ _, (fun h => by cases h), h1⟩
            | n + 13, ho => simp at ho
          · intro a w' hb hs hdf hG hf
            have h4 : OwnP w' (bx + 1) (a.eval (.tmp 4)) (ps.take k ++ [p] ++ ps.drop k) := hf 12 _ rfl rfl
            obtain ⟨tmps, dfs⟩ := a
            simp only at hdf
            subst hdf
            have HZ := Lib.hid (h4.base (show B ≤ bx + 1 by omega))
            have HBz := Lib.hid (show Below w.heap.size w w' by rw [HX.out]; exact HB'.out.trans (hG.1.mono (by omega)))
            clear hf hb hs hG h4
            go_wp2_with fail
            go_ret
            exact ⟨_, _, rfl, HZ.out, by rw [insert_len hk]; exact Nat.le_refl _, insert_small HS.out HP.out, HBz.out⟩
    · have d1 : decide (k < ps.length) = false := decide_eq_false hlt
      go_wp2_with fail
      go_quiet (fail)
      go_wp2_with fail
      go_quiet (fail)
      go_wp2_with fail
      clear d1 k0
      refine wp_region_facts2 (sz := 49) [0, 3, 5] (by kernel_rfl) (by kernel_rfl) (by kernel_rfl) insGone insKeep (by kernel_rfl) (by kernel_rfl) (InsG (bx + 1) w1) (InsR (bx + 1)) (InsF (bx + 1) g cap k p ps) rfl ⟨Below.drew (by repeat' (first | exact Below.refl _ _ | refine Go.below_drewN ?_ _)), by simp⟩ ?_ ?_ ?_
      · intro i j v w2 w3 hi hj hkp hf hR
        have hi : i < 13 := hi; have hj : j < 13 := hj
        simp only [InsR] at hR
        by_cases h7 : i = 7 ∨ i = 11
        · rw [if_pos h7] at hR
          have hj2 : ¬ (j = 0 ∨ j = 4 ∨ j = 6 ∨ j = 7 ∨ j = 11 ∨ j = 12) := by
            intro h
            have : insKeep i j = false := by rcases h7 with rfl | rfl <;> rcases h with rfl | rfl | rfl | rfl | rfl | rfl <;> rfl
            rw [this] at hkp; cases hkp
          unfold InsF at hf ⊢
          split at hf <;> first | exact hf | (exfalso; omega)
        · rw [if_neg h7] at hR
          by_cases h4 : i = 4
          · rw [if_pos h4] at hR
            subst h4
            have hj2 : ¬ (j = 0 ∨ j = 4) := by
              rintro (rfl | rfl) <;> cases hkp
            obtain ⟨g0, he, hg⟩ := hR
            unfold InsF at hf ⊢
            split at hf <;> first | exact hf | (exfalso; omega) | exact hf.other (by simp) he hg
          · rw [if_neg h4] at hR
            unfold InsF at hf ⊢
            split at hf <;> first | exact hf | exact hf.below hR | exact ⟨hf.1, hf.2.below hR⟩ | trivial
      · intro i o ho
        have hold : ∀ W, InsG (bx + 1) w1 W → OwnP W B (.slice (some ⟨g, 0, none⟩) ps.length cap) ps := fun W h => HO.out.below (by rw [hsz1]; exact h.1)
        have hbox : ∀ W, InsG (bx + 1) w1 W → AtB W bx p := fun W h => HA.out.below (by rw [hsz1]; exact h.1)
        have hbw : ∀ W, InsG (bx + 1) w1 W → bx + 1 ≤ W.heap.size := fun W h => by rw [← hsz1]; exact h.2
        match i, ho with
        | 0, ho =>
          cases ho
          intro ev w' hc hfn hb hG hd
          refine stepTo_gen fun K' hK => ?_
          simp [go_sem, stepTo, hc, hfn]
          exact hK _ _ ⟨hG.alloc _ (by omega), boxed _ _, (fun h => by cases h), ⟨_, rfl⟩, ⟨_, _, rfl⟩, World.ownsRow_lit w' #[] 0 (hbw w' hG) (by decide) rfl⟩
        | 1, ho | 8, ho =>
          cases ho
          intro ev w' hc hfn hb hG hd
          have h0 : ev (.tmp 0) = .slice (some ⟨g, 0, none⟩) ps.length cap := hb 0 (by simp)
          refine stepTo_gen fun K' hK => ?_
          simp [go_sem, stepTo, hc, hfn, h0]
          exact hK _ _ ⟨hG, Below.refl _ _, (fun h => by cases h), rfl⟩
        | 2, ho | 9, ho =>
          cases ho
          intro ev w' hc hfn hb hG hd
          have h0 : ev (.tmp 5) = .int .i64 (k : Int) := hb 5 (by simp)
          refine stepTo_gen fun K' hK => ?_
          simp [go_sem, stepTo, hc, hfn, h0]
          exact hK _ _ ⟨hG, Below.refl _ _, (fun h => by cases h), rfl⟩
        | 3, ho =>
          cases ho
          intro ev w' hc hfn hb hG hd
          have h1 : ev (.tmp 38) = .slice (some ⟨g, 0, none⟩) ps.length cap := hd { on := 1, ground := .data } (by simp) rfl rfl _ rfl
          have h2 : ev (.tmp 39) = .int .i64 (k : Int) := hd { on := 2, ground := .data } (by simp) rfl rfl _ rfl
          have hkc : k ≤ cap := by omega
          refine stepTo_gen fun K' hK => ?_
          simp [go_sem, stepTo, hc, hfn, h1, h2, hk, hkc]
          exact hK _ _ ⟨hG, Below.refl _ _, (fun h => by cases h), _, rfl⟩
        | 4, ho =>
          cases ho
          intro ev w' hc hfn hb hG hd
          obtain ⟨⟨g0, e0⟩, h1⟩ : (∃ g0, ev (.tmp 37) = .slice (some ⟨g0, 0, none⟩) 0 0) ∧ OwnP w' (bx + 1) (ev (.tmp 37)) [] := hd { on := 0, ground := .data } (by simp) rfl rfl _ rfl
          obtain ⟨c, h2⟩ : ∃ c, ev (.tmp 40) = .slice (some ⟨g, 0, none⟩) k c := hd { on := 3, ground := .data } (by simp) rfl rfl _ rfl
          have hlk : (ps.take k).length = k := by rw [List.length_take]; omega
          obtain ⟨v', w'', hr, hO, hg⟩ := own_append 24 h1 ⟨g, 0, none⟩ c (qs := ps.take k) (fun j u hu => by
            rw [Addr.add_mid, Nat.zero_add]
            rw [flat_take] at hu
            have hu' : (flatP ps)[j]? = some u := by
              rw [List.getElem?_take] at hu; split at hu
              · exact hu
              · cases hu
            exact (hold w' hG).cell hu') (by rw [hlk]; simp; omega) (hbw w' hG)
          rw [hlk] at hr
          refine stepTo_gen fun K' hK => step_append (s := .tmp 37) (x := .tmp 40) (t := 24) rfl (by rw [h2]; exact hr) (hK _ _ ⟨hG.grown h1 hg (by omega), ?_, (fun h => by cases h), hO⟩)
          have hg0 : w'.grownBy w'' (some g0) := by have := hg; rw [e0] at this; exact this
          refine ⟨g0, ?_, hg0⟩
          rcases h1.2.2 with ⟨e1, _⟩ | ⟨g1, cap1, cur1, e1, _, h5, _, _, h7, _⟩
          · rw [e0] at e1; cases e1
          · rw [e0] at e1; cases e1; exact ⟨_, _, h5, by rw [h7]⟩
        | 5, ho =>
          cases ho
          intro ev w' hc hfn hb hG hd
          have h1 : ev (.tmp 3) = .pointer (some ⟨bx, 0, none⟩) := hb 3 (by simp)
          obtain ⟨c0, c1, c2, c3, c4⟩ := hbox w' hG
          refine stepTo_gen fun K' hK => ?_
          simp [go_sem, stepTo, hc, hfn, h1, c0, c1, c2, c3, c4]
          exact hK _ _ ⟨hG, Below.refl _ _, (fun h => by cases h), rfl⟩
        | 6, ho =>
          cases ho
          intro ev w' hc hfn hb hG hd
          have h1 : ev (.tmp 42) = .agg #[.int .i64 p.num, .string p.fst, .string p.lst, .int .i64 p.born, .int .i64 p.zone] := hd { on := 5, ground := .data } (by simp) rfl rfl _ rfl
          refine stepTo_gen fun K' hK => ?_
          simp [go_sem, stepTo, hc, hfn, h1]
          exact hK _ _ ⟨hG.alloc _ (by omega), boxed _ _, (fun h => by cases h), ⟨_, _, rfl⟩, World.ownsRow_lit w' #[.int .i64 p.num, .string p.fst, .string p.lst, .int .i64 p.born, .int .i64 p.zone] 1 (hbw w' hG) (by decide) rfl⟩
        | 7, ho =>
          cases ho
          intro ev w' hc hfn hb hG hd
          have h1 : OwnP w' (bx + 1) (ev (.tmp 41)) (ps.take k) := hd { on := 4, ground := .data } (by simp) rfl rfl _ rfl
          have h2 : OwnP w' (bx + 1) (ev (.tmp 43)) [p] := hd { on := 6, ground := .data } (by simp) rfl rfl _ rfl
          obtain ⟨g2, c2, e2⟩ := h2.1
          rw [e2] at h2
          obtain ⟨v', w'', hr, hO, hg⟩ := own_append 24 h1 ⟨g2, 0, none⟩ c2 (qs := [p]) (fun j u hu => by rw [Addr.add_mid, Nat.zero_add]; exact h2.cell hu) (by rw [List.length_take]; simp; omega) (hbw w' hG)
          have e2' : ev (.tmp 43) = .slice (some ⟨g2, 0, none⟩) 1 c2 := e2
          have hr' : (Builtin.append_ #[24, 24] 24 #[ev (.tmp 41), .slice (some ⟨g2, 0, none⟩) 1 c2]).run Try.prog w' = .ok v' w'' := hr
          refine stepTo_gen fun K' hK => step_append (s := .tmp 41) (x := .tmp 43) (t := 24) rfl (by rw [e2']; exact hr') ?_
          exact hK _ _ ⟨hG.grown h1 hg (by omega), (Below.refl _ _).grown hg (hbw w' hG) (fun j hj => (h1.2.lt j hj).1), (fun h => by cases h), hO⟩
        | 10, ho =>
          cases ho
          intro ev w' hc hfn hb hG hd
          have h1 : ev (.tmp 45) = .slice (some ⟨g, 0, none⟩) ps.length cap := hd { on := 8, ground := .data } (by simp) rfl rfl _ rfl
          have h2 : ev (.tmp 46) = .int .i64 (k : Int) := hd { on := 9, ground := .data } (by simp) rfl rfl _ rfl
          have hkc : k ≤ cap := by omega
          by_cases hck : cap = k
          · have hdn : ps.drop k = [] := List.drop_of_length_le (by omega)
            refine stepTo_gen fun K' hK => ?_
            simp [go_sem, stepTo, hc, hfn, h1, h2, hk, hkc, hck]
            exact hK _ _ ⟨hG, Below.refl _ _, (fun h => by cases h), _, _, rfl, .inr hdn⟩
          · refine stepTo_gen fun K' hK => ?_
            simp [go_sem, stepTo, hc, hfn, h1, h2, hk, hkc, hck]
            exact hK _ _ ⟨hG, Below.refl _ _, (fun h => by cases h), _, _, rfl, .inl rfl⟩
        | 11, ho =>
          cases ho
          intro ev w' hc hfn hb hG hd
          have h1 : OwnP w' (bx + 1) (ev (.tmp 44)) (ps.take k ++ [p]) := hd { on := 7, ground := .data } (by simp) rfl rfl _ rfl
          obtain ⟨c, off, h2, hoff⟩ : ∃ c off, ev (.tmp 47) = .slice (some ⟨g, off, none⟩) (ps.length - k) c ∧ (off = k * 5 ∨ ps.drop k = []) := hd { on := 10, ground := .data } (by simp) rfl rfl _ rfl
          have hlk : (ps.drop k).length = ps.length - k := List.length_drop
          obtain ⟨v', w'', hr, hO, hg⟩ := own_append 24 h1 ⟨g, off, none⟩ c (qs := ps.drop k) (fun j u hu => by
            rw [Addr.add_mid]
            rcases hoff with rfl | hoff
            case inr => rw [hoff] at hu; simp [flatP] at hu
            rw [flat_drop, List.getElem?_drop] at hu
            exact (hold w' hG).cell hu) (by simp only [List.length_append, List.length_take, List.length_drop, List.length_singleton]; omega) (hbw w' hG)
          rw [hlk] at hr
          refine stepTo_gen fun K' hK => step_append (s := .tmp 44) (x := .tmp 47) (t := 24) rfl (by rw [h2]; exact hr) ?_
          exact hK _ _ ⟨hG.grown h1 hg (by omega), (Below.refl _ _).grown hg (hbw w' hG) (fun j hj => (h1.2.lt j hj).1), (fun h => by cases h), hO⟩
        | 12, ho =>
          cases ho
          intro ev w' hc hfn hb hG hd
          have h1 : OwnP w' (bx + 1) (ev (.tmp 48)) (ps.take k ++ [p] ++ ps.drop k) := hd { on := 11, ground := .data } (by simp) rfl rfl _ rfl
          refine stepTo_gen fun K' hK => ?_
          simp [go_sem, stepTo, hc, hfn]
          exact hK _ _ ⟨hG, Below.refl _ _, (fun h => by cases h), h1⟩
        | n + 13, ho => simp at ho
      · intro a w' hb hs hdf hG hf
        have h4 : OwnP w' (bx + 1) (a.eval (.tmp 4)) (ps.take k ++ [p] ++ ps.drop k) := hf 12 _ rfl rfl
        obtain ⟨tmps, dfs⟩ := a
        simp only at hdf
        subst hdf
        have HZ := Lib.hid (h4.base (show B ≤ bx + 1 by omega))
        have HBz := Lib.hid (show Below w.heap.size w w' by rw [HX.out]; exact HB'.out.trans (hG.1.mono (by omega)))
        clear hf hb hs hG h4
        go_wp2_with fail
        go_ret
        exact ⟨_, _, rfl, HZ.out, by rw [insert_len hk]; exact Nat.le_refl _, insert_small HS.out HP.out, HBz.out⟩

end Go.Proofs.Ytdeiillfdjebdaa
