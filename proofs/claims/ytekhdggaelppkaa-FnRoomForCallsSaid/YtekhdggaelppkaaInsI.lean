/- Contract: spec.l07Insert puts a number into a list at its place, once. -/
import Derived.Test.YtekhdggaelppkaaChecked
import Derived.Test.YtekhdggaelppkaaBase0
import Derived.Test.YtekhdggaelppkaaInfo
import Derived.Test.YtekhdggaelppkaaIntL
import Derived.Test.YtekhdggaelppkaaStepApp
import Derived.Deep.MidRow
import Derived.WalkKit
import Derived.WalkSpells
import Derived.WalkLawsBesides
import Derived.Lib.Hide
import Derived.IntWalk
import Derived.Deep.OwnRows
import Derived.Outline
namespace Go.Proofs.Ytekhdggaelppkaa
open Go.RowKit Pure1 Pure2
set_option linter.unusedSimpArgs false

def Ins7R (B : Nat) (i : Nat) (w w' : World) : Prop := if i = 7 ∨ i = 11 then Below B w w' else if i = 4 then ∃ g, (∃ cur T, w.heap[g]? = some (.cells cur T (0, 0)) ∧ cur.size = 0) ∧ w.grownBy w' (some g) else Below w.heap.size w w'
def Ins7F (B g cap k : Nat) (n : Int) (zs : List Int) : Nat → Value → World → Prop
  | 0, v, w => (∃ g, v = .slice (some ⟨g, 0, none⟩) 0 0) ∧ IntL w B v []
  | 1, v, _ | 8, v, _ => v = .slice (some ⟨g, 0, none⟩) zs.length cap
  | 2, v, _ | 9, v, _ => v = .int .i64 (k : Int)
  | 3, v, _ => ∃ c, v = .slice (some ⟨g, 0, none⟩) k c
  | 4, v, w => IntL w B v (zs.take k)
  | 5, v, _ => v = .int .i64 n
  | 6, v, w => IntL w B v [n]
  | 7, v, w => IntL w B v (zs.take k ++ [n])
  | 10, v, _ => ∃ c off, v = .slice (some ⟨g, off, none⟩) (zs.length - k) c ∧ (off = k ∨ zs.drop k = [])
  | 11, v, w | 12, v, w => IntL w B v (zs.take k ++ [n] ++ zs.drop k)
  | _, _, _ => True
def ins7Gone : Nat → Option Nat
  | 0 | 3 => some 4
  | 4 | 6 => some 7
  | 7 | 10 => some 11
  | 11 => some 12
  | _ => none
def ins7Keep (i j : Nat) : Bool := !((i == 4 && (j == 0 || j == 4)) || (i == 7 || i == 11) && (j == 0 || j == 4 || j == 6 || j == 7 || j == 11 || j == 12))

set_option maxRecDepth 100000 in
set_option maxHeartbeats 4000000 in
theorem specInsert7_any (B g cap : Nat) (zs : List Int) (n : Int) (w : World) (hown : IntL w B (.slice (some ⟨g, 0, none⟩) zs.length cap) zs) (hl : zs.length ≤ 1000) :
    Calls Try.prog 84 #[.slice (some ⟨g, 0, none⟩) zs.length cap, .int .i64 n] w (fun e w' => ∃ v, e = .returned v ∧ IntL w' B v (insI zs n) ∧ Below w.heap.size w w') := by
  obtain ⟨hBg, hgw⟩ := hown.2.lt g rfl
  have HO := Lib.hid hown
  have hcap : zs.length ≤ cap ∧ cap ≤ maxLen := by
    rcases hown.2.2 with ⟨h, _⟩ | ⟨g', cap', cur, h, _, _, h1, h2, _⟩
    · cases h
    · cases h; exact ⟨h1, h2⟩
  unfold maxLen at hcap
  clear hown
  go_enter Try.func84, Try.ntmps84
  go_wp2_with fail
  go_loopw [5] (fun i wr => ∃ k : Nat, k ≤ zs.length ∧ i = .int .i64 k ∧ (∀ (j : Nat) x, j < k → zs[j]? = some x → x < n) ∧ wr = w) (fun i _ => zs.length - (intOf i).toNat)
  case atStart => exact ⟨0, Nat.zero_le _, rfl, (fun j x hj => by omega), rfl⟩
  case round =>
    obtain ⟨k, hk, rfl, hno, hwr⟩ := hrel
    obtain rfl : w = wr := hwr.symm
    have HN := Lib.hid hno; clear hno hwr
    by_cases hlt : k < zs.length
    · obtain ⟨q, hq⟩ : ∃ q, zs[k]? = some q := ⟨_, List.getElem?_eq_getElem hlt⟩
      have c0 := HO.out.cell (valsI_at hq)
      have HQ := Lib.hid hq; clear hq
      by_cases hn : q < n
      · go_wp2_with fail
        go_roundw
        case rel => exact ⟨k + 1, by omega, by go_num, (fun j x hj hx => by
          by_cases e : j = k
          · subst e; rw [HQ.out] at hx; cases hx; exact hn
          · exact HN.out j x (by omega) hx), (by first | rfl | trivial)⟩
        case measure => simp [intOf]; omega
      · have d2 : decide (q < n) = false := decide_eq_false hn
        have HI0 := Lib.hid (insI_at HN.out (by omega) (fun x hx => by rw [HQ.out] at hx; cases hx; exact hn))
        by_cases he : q = n
        · have d3 : (q == n) = true := beq_iff_eq.2 he
          have HI := Lib.hid (show insI zs n = zs by rw [HI0.out, if_pos (by rw [HQ.out, he])])
          clear he hn
          go_wp2_with fail
          go_ret
          rw [HI.out]
          exact ⟨_, rfl, HO.out, Below.refl _ _⟩
        · have d3 : (q == n) = false := beq_eq_false_iff_ne.2 he
          have HI := Lib.hid (show insI zs n = zs.take k ++ [n] ++ zs.drop k by rw [HI0.out, if_neg (by rw [HQ.out]; intro e; exact he (Option.some.inj e))])
          clear he hn
          go_wp2_with fail
          clear d2 d3 c0
          refine wp_region_facts2 (sz := 45) [0, 1, 5] (by kernel_rfl) (by kernel_rfl) (by kernel_rfl) ins7Gone ins7Keep (by kernel_rfl) (by kernel_rfl) (fun W => Below w.heap.size w W) (Ins7R w.heap.size) (Ins7F w.heap.size g cap k n zs) rfl (Below.drew (Below.refl _ _)) ?_ ?_ ?_
          · intro i j v w2 w3 hi hj hkp hf hR
            have hi : i < 13 := hi; have hj : j < 13 := hj
            simp only [Ins7R] at hR
            by_cases h7 : i = 7 ∨ i = 11
            · rw [if_pos h7] at hR
              have hj2 : ¬ (j = 0 ∨ j = 4 ∨ j = 6 ∨ j = 7 ∨ j = 11 ∨ j = 12) := by
                intro h
                have : ins7Keep i j = false := by rcases h7 with rfl | rfl <;> rcases h with rfl | rfl | rfl | rfl | rfl | rfl <;> rfl
                rw [this] at hkp; cases hkp
              unfold Ins7F at hf ⊢
              split at hf <;> first | exact hf | (exfalso; omega)
            · rw [if_neg h7] at hR
              by_cases h4 : i = 4
              · rw [if_pos h4] at hR
                subst h4
                have hj2 : ¬ (j = 0 ∨ j = 4) := by
                  rintro (rfl | rfl) <;> cases hkp
                obtain ⟨g0, he, hg⟩ := hR
                unfold Ins7F at hf ⊢
                split at hf <;> first | exact hf | (exfalso; omega) | exact hf.other (by simp) he hg
              · rw [if_neg h4] at hR
                unfold Ins7F at hf ⊢
                split at hf <;> first | exact hf | exact hf.below hR | exact ⟨hf.1, hf.2.below hR⟩ | trivial
          · intro i o ho
            have hold : ∀ W, Below w.heap.size w W → IntL W B (.slice (some ⟨g, 0, none⟩) zs.length cap) zs := fun W h => HO.out.below h
            match i, ho with
            | 0, ho =>
              cases ho
              intro ev w' hc hfn hb hG hd
              refine stepTo_gen fun K' hK => ?_
              simp [go_sem, stepTo, hc, hfn]
              exact hK _ _ ⟨hG.alloc hG.size _, (Below.refl _ _).alloc (Nat.le_refl _) _, (fun h => by cases h), ⟨_, rfl⟩, ⟨_, _, rfl⟩, World.ownsRow_lit w' #[] 0 hG.size (by decide) rfl⟩
            | 1, ho | 8, ho =>
              cases ho
              intro ev w' hc hfn hb hG hd
              have h0 : ev (.tmp 0) = .slice (some ⟨g, 0, none⟩) zs.length cap := hb 0 (by simp)
              refine stepTo_gen fun K' hK => ?_
              simp [go_sem, stepTo, hc, hfn, h0]
              exact hK _ _ ⟨hG, Below.refl _ _, (fun h => by cases h), rfl⟩
            | 2, ho | 9, ho =>
              cases ho
              intro ev w' hc hfn hb hG hd
              have h0 : ev (.tmp 5) = .int .i64 (k : Int) := hb 5 (by simp)
              refine stepTo_gen fun K' hK => ?_
              simp [go_sem, stepTo, hc, hfn, h0]
              exact hK _ _ ⟨hG, Below.refl _ _, (fun h => by cases h), rfl⟩
            | 3, ho =>
              cases ho
              intro ev w' hc hfn hb hG hd
              have h1 : ev (.tmp 34) = .slice (some ⟨g, 0, none⟩) zs.length cap := hd { on := 1, ground := .data } (by simp) rfl rfl _ rfl
              have h2 : ev (.tmp 35) = .int .i64 (k : Int) := hd { on := 2, ground := .data } (by simp) rfl rfl _ rfl
              have hkc : k ≤ cap := by omega
              refine stepTo_gen fun K' hK => ?_
              simp [go_sem, stepTo, hc, hfn, h1, h2, hk, hkc]
              exact hK _ _ ⟨hG, Below.refl _ _, (fun h => by cases h), _, rfl⟩
            | 4, ho =>
              cases ho
              intro ev w' hc hfn hb hG hd
              obtain ⟨⟨g0, e0⟩, h1⟩ : (∃ g0, ev (.tmp 33) = .slice (some ⟨g0, 0, none⟩) 0 0) ∧ IntL w' w.heap.size (ev (.tmp 33)) [] := hd { on := 0, ground := .data } (by simp) rfl rfl _ rfl
              obtain ⟨c, h2⟩ : ∃ c, ev (.tmp 36) = .slice (some ⟨g, 0, none⟩) k c := hd { on := 3, ground := .data } (by simp) rfl rfl _ rfl
              have hlk : (zs.take k).length = k := by rw [List.length_take]; omega
              obtain ⟨v', w'', hr, hO, hg⟩ := intL_append 24 h1 ⟨g, 0, none⟩ c (qs := zs.take k) (fun j u hu => by
                rw [Addr.add_mid, Nat.zero_add]
                have hu' : (valsI zs)[j]? = some u := by
                  unfold valsI at hu ⊢
                  rw [List.map_take, List.getElem?_take] at hu; split at hu
                  · exact hu
                  · cases hu
                exact (hold w' hG).cell hu') (by rw [hlk]; simp; omega) hG.size
              rw [hlk] at hr
              refine stepTo_gen fun K' hK => step_app (s := .tmp 33) (x := .tmp 36) (t := 24) rfl (by rw [h2]; exact hr) (hK _ _ ⟨hG.grown hg hG.size (fun j hj => (h1.2.lt j hj).1), ?_, (fun h => by cases h), hO⟩)
              have hg0 : w'.grownBy w'' (some g0) := by have := hg; rw [e0] at this; exact this
              refine ⟨g0, ?_, hg0⟩
              rcases h1.2.2 with ⟨e1, _⟩ | ⟨g1, cap1, cur1, e1, _, h5, _, _, h7, _⟩
              · rw [e0] at e1; cases e1
              · rw [e0] at e1; cases e1; exact ⟨_, _, h5, by rw [h7]⟩
            | 5, ho =>
              cases ho
              intro ev w' hc hfn hb hG hd
              have h1 : ev (.tmp 1) = .int .i64 n := hb 1 (by simp)
              refine stepTo_gen fun K' hK => ?_
              simp [go_sem, stepTo, hc, hfn, h1]
              exact hK _ _ ⟨hG, Below.refl _ _, (fun h => by cases h), rfl⟩
            | 6, ho =>
              cases ho
              intro ev w' hc hfn hb hG hd
              have h1 : ev (.tmp 38) = .int .i64 n := hd { on := 5, ground := .data } (by simp) rfl rfl _ rfl
              refine stepTo_gen fun K' hK => ?_
              simp [go_sem, stepTo, hc, hfn, h1]
              exact hK _ _ ⟨hG.alloc hG.size _, (Below.refl _ _).alloc (Nat.le_refl _) _, (fun h => by cases h), ⟨_, _, rfl⟩, World.ownsRow_lit w' #[.int .i64 n] 1 hG.size (by decide) rfl⟩
            | 7, ho =>
              cases ho
              intro ev w' hc hfn hb hG hd
              have h1 : IntL w' w.heap.size (ev (.tmp 37)) (zs.take k) := hd { on := 4, ground := .data } (by simp) rfl rfl _ rfl
              have h2 : IntL w' w.heap.size (ev (.tmp 39)) [n] := hd { on := 6, ground := .data } (by simp) rfl rfl _ rfl
              obtain ⟨g2, c2, e2⟩ := h2.1
              rw [e2] at h2
              obtain ⟨v', w'', hr, hO, hg⟩ := intL_append 24 h1 ⟨g2, 0, none⟩ c2 (qs := [n]) (fun j u hu => by rw [Addr.add_mid, Nat.zero_add]; exact h2.cell hu) (by rw [List.length_take]; simp; omega) hG.size
              have e2' : ev (.tmp 39) = .slice (some ⟨g2, 0, none⟩) 1 c2 := e2
              have hr' : (Builtin.append_ #[24, 24] 24 #[ev (.tmp 37), .slice (some ⟨g2, 0, none⟩) 1 c2]).run Try.prog w' = .ok v' w'' := hr
              refine stepTo_gen fun K' hK => step_app (s := .tmp 37) (x := .tmp 39) (t := 24) rfl (by rw [e2']; exact hr') ?_
              exact hK _ _ ⟨hG.grown hg hG.size (fun j hj => (h1.2.lt j hj).1), (Below.refl _ _).grown hg hG.size (fun j hj => (h1.2.lt j hj).1), (fun h => by cases h), hO⟩
            | 10, ho =>
              cases ho
              intro ev w' hc hfn hb hG hd
              have h1 : ev (.tmp 41) = .slice (some ⟨g, 0, none⟩) zs.length cap := hd { on := 8, ground := .data } (by simp) rfl rfl _ rfl
              have h2 : ev (.tmp 42) = .int .i64 (k : Int) := hd { on := 9, ground := .data } (by simp) rfl rfl _ rfl
              have hkc : k ≤ cap := by omega
              by_cases hck : cap = k
              · have hdn : zs.drop k = [] := List.drop_of_length_le (by omega)
                refine stepTo_gen fun K' hK => ?_
                simp [go_sem, stepTo, hc, hfn, h1, h2, hk, hkc, hck]
                exact hK _ _ ⟨hG, Below.refl _ _, (fun h => by cases h), _, _, rfl, .inr hdn⟩
              · refine stepTo_gen fun K' hK => ?_
                simp [go_sem, stepTo, hc, hfn, h1, h2, hk, hkc, hck]
                exact hK _ _ ⟨hG, Below.refl _ _, (fun h => by cases h), _, _, rfl, .inl rfl⟩
            | 11, ho =>
              cases ho
              intro ev w' hc hfn hb hG hd
              have h1 : IntL w' w.heap.size (ev (.tmp 40)) (zs.take k ++ [n]) := hd { on := 7, ground := .data } (by simp) rfl rfl _ rfl
              obtain ⟨c, off, h2, hoff⟩ : ∃ c off, ev (.tmp 43) = .slice (some ⟨g, off, none⟩) (zs.length - k) c ∧ (off = k ∨ zs.drop k = []) := hd { on := 10, ground := .data } (by simp) rfl rfl _ rfl
              have hlk : (zs.drop k).length = zs.length - k := List.length_drop
              obtain ⟨v', w'', hr, hO, hg⟩ := intL_append 24 h1 ⟨g, off, none⟩ c (qs := zs.drop k) (fun j u hu => by
                rw [Addr.add_mid]
                rcases hoff with rfl | hoff
                case inr => rw [hoff] at hu; simp [valsI] at hu
                unfold valsI at hu
                rw [List.map_drop, List.getElem?_drop] at hu
                exact (hold w' hG).cell hu) (by simp only [List.length_append, List.length_take, List.length_drop, List.length_singleton]; omega) hG.size
              rw [hlk] at hr
              refine stepTo_gen fun K' hK => step_app (s := .tmp 40) (x := .tmp 43) (t := 24) rfl (by rw [h2]; exact hr) ?_
              exact hK _ _ ⟨hG.grown hg hG.size (fun j hj => (h1.2.lt j hj).1), (Below.refl _ _).grown hg hG.size (fun j hj => (h1.2.lt j hj).1), (fun h => by cases h), hO⟩
            | 12, ho =>
              cases ho
              intro ev w' hc hfn hb hG hd
              have h1 : IntL w' w.heap.size (ev (.tmp 44)) (zs.take k ++ [n] ++ zs.drop k) := hd { on := 11, ground := .data } (by simp) rfl rfl _ rfl
              refine stepTo_gen fun K' hK => ?_
              simp [go_sem, stepTo, hc, hfn]
              exact hK _ _ ⟨hG, Below.refl _ _, (fun h => by cases h), h1⟩
            | n + 13, ho => simp at ho
          · intro a w' hb hs hdf hG hf
            have h4 : IntL w' w.heap.size (a.eval (.tmp 4)) (zs.take k ++ [n] ++ zs.drop k) := hf 12 _ rfl rfl
            obtain ⟨tmps, dfs⟩ := a
            simp only at hdf
            subst hdf
            have HZ := Lib.hid (h4.base (show B ≤ w.heap.size by omega)); have HB := Lib.hid (show Below w.heap.size w w' from hG)
            clear hf hb hs hG h4
            go_wp2_with fail
            go_ret
            rw [HI.out]
            exact ⟨_, rfl, HZ.out, HB.out⟩
    · have hke : zs.length ≤ k := by omega
      have HI := Lib.hid (show insI zs n = zs.take k ++ [n] ++ zs.drop k by rw [insI_at HN.out (by omega) (fun x hx => by rw [List.getElem?_eq_none hke] at hx; cases hx), if_neg (by rw [List.getElem?_eq_none hke]; intro e; cases e)])
      go_wp2_with fail
      refine wp_region_facts2 (sz := 45) [0, 1, 5] (by kernel_rfl) (by kernel_rfl) (by kernel_rfl) ins7Gone ins7Keep (by kernel_rfl) (by kernel_rfl) (fun W => Below w.heap.size w W) (Ins7R w.heap.size) (Ins7F w.heap.size g cap k n zs) rfl (Below.drew (Below.refl _ _)) ?_ ?_ ?_
      · intro i j v w2 w3 hi hj hkp hf hR
        have hi : i < 13 := hi; have hj : j < 13 := hj
        simp only [Ins7R] at hR
        by_cases h7 : i = 7 ∨ i = 11
        · rw [if_pos h7] at hR
          have hj2 : ¬ (j = 0 ∨ j = 4 ∨ j = 6 ∨ j = 7 ∨ j = 11 ∨ j = 12) := by
            intro h
            have : ins7Keep i j = false := by rcases h7 with rfl | rfl <;> rcases h with rfl | rfl | rfl | rfl | rfl | rfl <;> rfl
            rw [this] at hkp; cases hkp
          unfold Ins7F at hf ⊢
          split at hf <;> first | exact hf | (exfalso; omega)
        · rw [if_neg h7] at hR
          by_cases h4 : i = 4
          · rw [if_pos h4] at hR
            subst h4
            have hj2 : ¬ (j = 0 ∨ j = 4) := by
              rintro (rfl | rfl) <;> cases hkp
            obtain ⟨g0, he, hg⟩ := hR
            unfold Ins7F at hf ⊢
            split at hf <;> first | exact hf | (exfalso; omega) | exact hf.other (by simp) he hg
          · rw [if_neg h4] at hR
            unfold Ins7F at hf ⊢
            split at hf <;> first | exact hf | exact hf.below hR | exact ⟨hf.1, hf.2.below hR⟩ | trivial
      · intro i o ho
        have hold : ∀ W, Below w.heap.size w W → IntL W B (.slice (some ⟨g, 0, none⟩) zs.length cap) zs := fun W h => HO.out.below h
        match i, ho with
        | 0, ho =>
          cases ho
          intro ev w' hc hfn hb hG hd
          refine stepTo_gen fun K' hK => ?_
          simp [go_sem, stepTo, hc, hfn]
          exact hK _ _ ⟨hG.alloc hG.size _, (Below.refl _ _).alloc (Nat.le_refl _) _, (fun h => by cases h), ⟨_, rfl⟩, ⟨_, _, rfl⟩, World.ownsRow_lit w' #[] 0 hG.size (by decide) rfl⟩
        | 1, ho | 8, ho =>
          cases ho
          intro ev w' hc hfn hb hG hd
          have h0 : ev (.tmp 0) = .slice (some ⟨g, 0, none⟩) zs.length cap := hb 0 (by simp)
          refine stepTo_gen fun K' hK => ?_
          simp [go_sem, stepTo, hc, hfn, h0]
          exact hK _ _ ⟨hG, Below.refl _ _, (fun h => by cases h), rfl⟩
        | 2, ho | 9, ho =>
          cases ho
          intro ev w' hc hfn hb hG hd
          have h0 : ev (.tmp 5) = .int .i64 (k : Int) := hb 5 (by simp)
          refine stepTo_gen fun K' hK => ?_
          simp [go_sem, stepTo, hc, hfn, h0]
          exact hK _ _ ⟨hG, Below.refl _ _, (fun h => by cases h), rfl⟩
        | 3, ho =>
          cases ho
          intro ev w' hc hfn hb hG hd
          have h1 : ev (.tmp 34) = .slice (some ⟨g, 0, none⟩) zs.length cap := hd { on := 1, ground := .data } (by simp) rfl rfl _ rfl
          have h2 : ev (.tmp 35) = .int .i64 (k : Int) := hd { on := 2, ground := .data } (by simp) rfl rfl _ rfl
          have hkc : k ≤ cap := by omega
          refine stepTo_gen fun K' hK => ?_
          simp [go_sem, stepTo, hc, hfn, h1, h2, hk, hkc]
          exact hK _ _ ⟨hG, Below.refl _ _, (fun h => by cases h), _, rfl⟩
        | 4, ho =>
          cases ho
          intro ev w' hc hfn hb hG hd
          obtain ⟨⟨g0, e0⟩, h1⟩ : (∃ g0, ev (.tmp 33) = .slice (some ⟨g0, 0, none⟩) 0 0) ∧ IntL w' w.heap.size (ev (.tmp 33)) [] := hd { on := 0, ground := .data } (by simp) rfl rfl _ rfl
          obtain ⟨c, h2⟩ : ∃ c, ev (.tmp 36) = .slice (some ⟨g, 0, none⟩) k c := hd { on := 3, ground := .data } (by simp) rfl rfl _ rfl
          have hlk : (zs.take k).length = k := by rw [List.length_take]; omega
          obtain ⟨v', w'', hr, hO, hg⟩ := intL_append 24 h1 ⟨g, 0, none⟩ c (qs := zs.take k) (fun j u hu => by
            rw [Addr.add_mid, Nat.zero_add]
            have hu' : (valsI zs)[j]? = some u := by
              unfold valsI at hu ⊢
              rw [List.map_take, List.getElem?_take] at hu; split at hu
              · exact hu
              · cases hu
            exact (hold w' hG).cell hu') (by rw [hlk]; simp; omega) hG.size
          rw [hlk] at hr
          refine stepTo_gen fun K' hK => step_app (s := .tmp 33) (x := .tmp 36) (t := 24) rfl (by rw [h2]; exact hr) (hK _ _ ⟨hG.grown hg hG.size (fun j hj => (h1.2.lt j hj).1), ?_, (fun h => by cases h), hO⟩)
          have hg0 : w'.grownBy w'' (some g0) := by have := hg; rw [e0] at this; exact this
          refine ⟨g0, ?_, hg0⟩
          rcases h1.2.2 with ⟨e1, _⟩ | ⟨g1, cap1, cur1, e1, _, h5, _, _, h7, _⟩
          · rw [e0] at e1; cases e1
          · rw [e0] at e1; cases e1; exact ⟨_, _, h5, by rw [h7]⟩
        | 5, ho =>
          cases ho
          intro ev w' hc hfn hb hG hd
          have h1 : ev (.tmp 1) = .int .i64 n := hb 1 (by simp)
          refine stepTo_gen fun K' hK => ?_
          simp [go_sem, stepTo, hc, hfn, h1]
          exact hK _ _ ⟨hG, Below.refl _ _, (fun h => by cases h), rfl⟩
        | 6, ho =>
          cases ho
          intro ev w' hc hfn hb hG hd
          have h1 : ev (.tmp 38) = .int .i64 n := hd { on := 5, ground := .data } (by simp) rfl rfl _ rfl
          refine stepTo_gen fun K' hK => ?_
          simp [go_sem, stepTo, hc, hfn, h1]
          exact hK _ _ ⟨hG.alloc hG.size _, (Below.refl _ _).alloc (Nat.le_refl _) _, (fun h => by cases h), ⟨_, _, rfl⟩, World.ownsRow_lit w' #[.int .i64 n] 1 hG.size (by decide) rfl⟩
        | 7, ho =>
          cases ho
          intro ev w' hc hfn hb hG hd
          have h1 : IntL w' w.heap.size (ev (.tmp 37)) (zs.take k) := hd { on := 4, ground := .data } (by simp) rfl rfl _ rfl
          have h2 : IntL w' w.heap.size (ev (.tmp 39)) [n] := hd { on := 6, ground := .data } (by simp) rfl rfl _ rfl
          obtain ⟨g2, c2, e2⟩ := h2.1
          rw [e2] at h2
          obtain ⟨v', w'', hr, hO, hg⟩ := intL_append 24 h1 ⟨g2, 0, none⟩ c2 (qs := [n]) (fun j u hu => by rw [Addr.add_mid, Nat.zero_add]; exact h2.cell hu) (by rw [List.length_take]; simp; omega) hG.size
          have e2' : ev (.tmp 39) = .slice (some ⟨g2, 0, none⟩) 1 c2 := e2
          have hr' : (Builtin.append_ #[24, 24] 24 #[ev (.tmp 37), .slice (some ⟨g2, 0, none⟩) 1 c2]).run Try.prog w' = .ok v' w'' := hr
          refine stepTo_gen fun K' hK => step_app (s := .tmp 37) (x := .tmp 39) (t := 24) rfl (by rw [e2']; exact hr') ?_
          exact hK _ _ ⟨hG.grown hg hG.size (fun j hj => (h1.2.lt j hj).1), (Below.refl _ _).grown hg hG.size (fun j hj => (h1.2.lt j hj).1), (fun h => by cases h), hO⟩
        | 10, ho =>
          cases ho
          intro ev w' hc hfn hb hG hd
          have h1 : ev (.tmp 41) = .slice (some ⟨g, 0, none⟩) zs.length cap := hd { on := 8, ground := .data } (by simp) rfl rfl _ rfl
          have h2 : ev (.tmp 42) = .int .i64 (k : Int) := hd { on := 9, ground := .data } (by simp) rfl rfl _ rfl
          have hkc : k ≤ cap := by omega
          by_cases hck : cap = k
          · have hdn : zs.drop k = [] := List.drop_of_length_le (by omega)
            refine stepTo_gen fun K' hK => ?_
            simp [go_sem, stepTo, hc, hfn, h1, h2, hk, hkc, hck]
            exact hK _ _ ⟨hG, Below.refl _ _, (fun h => by cases h), _, _, rfl, .inr hdn⟩
          · refine stepTo_gen fun K' hK => ?_
            simp [go_sem, stepTo, hc, hfn, h1, h2, hk, hkc, hck]
            exact hK _ _ ⟨hG, Below.refl _ _, (fun h => by cases h), _, _, rfl, .inl rfl⟩
        | 11, ho =>
          cases ho
          intro ev w' hc hfn hb hG hd
          have h1 : IntL w' w.heap.size (ev (.tmp 40)) (zs.take k ++ [n]) := hd { on := 7, ground := .data } (by simp) rfl rfl _ rfl
          obtain ⟨c, off, h2, hoff⟩ : ∃ c off, ev (.tmp 43) = .slice (some ⟨g, off, none⟩) (zs.length - k) c ∧ (off = k ∨ zs.drop k = []) := hd { on := 10, ground := .data } (by simp) rfl rfl _ rfl
          have hlk : (zs.drop k).length = zs.length - k := List.length_drop
          obtain ⟨v', w'', hr, hO, hg⟩ := intL_append 24 h1 ⟨g, off, none⟩ c (qs := zs.drop k) (fun j u hu => by
            rw [Addr.add_mid]
            rcases hoff with rfl | hoff
            case inr => rw [hoff] at hu; simp [valsI] at hu
            unfold valsI at hu
            rw [List.map_drop, List.getElem?_drop] at hu
            exact (hold w' hG).cell hu) (by simp only [List.length_append, List.length_take, List.length_drop, List.length_singleton]; omega) hG.size
          rw [hlk] at hr
          refine stepTo_gen fun K' hK => step_app (s := .tmp 40) (x := .tmp 43) (t := 24) rfl (by rw [h2]; exact hr) ?_
          exact hK _ _ ⟨hG.grown hg hG.size (fun j hj => (h1.2.lt j hj).1), (Below.refl _ _).grown hg hG.size (fun j hj => (h1.2.lt j hj).1), (fun h => by cases h), hO⟩
        | 12, ho =>
          cases ho
          intro ev w' hc hfn hb hG hd
          have h1 : IntL w' w.heap.size (ev (.tmp 44)) (zs.take k ++ [n] ++ zs.drop k) := hd { on := 11, ground := .data } (by simp) rfl rfl _ rfl
          refine stepTo_gen fun K' hK => ?_
          simp [go_sem, stepTo, hc, hfn]
          exact hK _ _ ⟨hG, Below.refl _ _, (fun h => by cases h), h1⟩
        | n + 13, ho => simp at ho
      · intro a w' hb hs hdf hG hf
        have h4 : IntL w' w.heap.size (a.eval (.tmp 4)) (zs.take k ++ [n] ++ zs.drop k) := hf 12 _ rfl rfl
        obtain ⟨tmps, dfs⟩ := a
        simp only at hdf
        subst hdf
        have HZ := Lib.hid (h4.base (show B ≤ w.heap.size by omega)); have HB := Lib.hid (show Below w.heap.size w w' from hG)
        clear hf hb hs hG h4
        go_wp2_with fail
        go_ret
        rw [HI.out]
        exact ⟨_, rfl, HZ.out, HB.out⟩
end Go.Proofs.Ytekhdggaelppkaa
