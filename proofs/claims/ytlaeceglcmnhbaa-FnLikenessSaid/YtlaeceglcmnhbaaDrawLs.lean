/- Contracts: spec.DrawMostAlike and spec.DrawFindPerson draw a list and a person, or a list and a number. -/
import Derived.Test.YtlaeceglcmnhbaaChecked
import Derived.Test.YtlaeceglcmnhbaaBase
import Derived.Test.YtlaeceglcmnhbaaPure40
import Derived.Test.YtlaeceglcmnhbaaPure6
import Derived.Test.YtlaeceglcmnhbaaNext
import Derived.Test.YtlaeceglcmnhbaaFrom
import Derived.Test.YtlaeceglcmnhbaaPersLaw
import Derived.Test.YtlaeceglcmnhbaaDraw4
import Derived.Test.YtlaeceglcmnhbaaFacts2
import Derived.Test.YtlaeceglcmnhbaaList4
import Derived.Test.YtlaeceglcmnhbaaPair
import Derived.WalkKit
import Derived.WalkSpells
import Derived.WalkLawsBesides
import Derived.Lib.Hide
import Derived.IntWalk
import Derived.Outline
namespace Go.Proofs.Ytlaeceglcmnhbaa
open Go.RowKit Pure1 Pure2 Pure6 Pure40
set_option linter.unusedSimpArgs false

def DrewLP (w : World) (e : Ending) (w' : World) : Prop := ∃ (g cap : Nat) (qs : List Pers) (q : Pers), e = .returned (.tuple #[.slice (some ⟨g, 0, none⟩) qs.length cap, .agg #[.int .i64 q.num, .string q.fst, .string q.lst, .int .i64 q.born, .int .i64 q.zone]]) ∧ qs.length ≤ 40 ∧ SmallL qs ∧ PersAt w' (some ⟨g, 0, none⟩) qs ∧ Small q ∧ Below w.heap.size w w'
def DrewLI (w : World) (e : Ending) (w' : World) : Prop := ∃ (g cap : Nat) (qs : List Pers) (x : Int), e = .returned (.tuple #[.slice (some ⟨g, 0, none⟩) qs.length cap, .int .i64 x]) ∧ qs.length ≤ 40 ∧ SmallL qs ∧ PersAt w' (some ⟨g, 0, none⟩) qs ∧ Below w.heap.size w w'

set_option maxRecDepth 100000 in
set_option maxHeartbeats 2000000 in
theorem specDrawMostAlike_any (a : Option Addr) (len cap : Nat) (bs : List Int) (w : World) (hl : bs.length = len) (hm : len ≤ 4096) (h : BytesAt w.heap.size w a bs) :
    Calls Try.prog 14 #[.slice a len cap] w (DrewLP w) := by
  have hBx := boxed w (.cells #[.int .i64 0, .string ⟨#[]⟩, .string ⟨#[]⟩, .int .i64 0, .int .i64 0] 25)
  have HF := Lib.hid (specFrom_any a len cap bs _ hl hm (h.later hBx)); clear h hl
  have HR0 := Lib.hid (row_box w ⟨0, ⟨#[]⟩, ⟨#[]⟩, 0, 0⟩ 25)
  have HB0 := Lib.hid hBx; clear hBx
  have hsz1 : (w.alloc (.cells #[.int .i64 0, .string ⟨#[]⟩, .string ⟨#[]⟩, .int .i64 0, .int .i64 0] 25)).heap.size = w.heap.size + 1 := by simp
  go_enter Try.func14, Try.ntmps14
  go_wp2_with fail
  refine HF.out.mono ?_; rintro e w1 ⟨b, rfl, hS, hB⟩
  rw [hsz1] at hS hB
  have hbB := hS.base
  have hlt1 := hS.lt
  have HR1 := Lib.hid (row_later HR0.out (by rw [hsz1]; exact hB))
  have HB1 := Lib.hid (HB0.out.trans (hB.mono (by omega))); have HS1 := Lib.hid hS; clear hS hB
  go_wp2_with fail
  refine (specList4_any _ b w1 HS1.out).mono ?_; rintro e w2 ⟨v, qs, rfl, ho, hlq, hz, hS, hB⟩
  obtain ⟨g, cap2, rfl⟩ := ho.1
  have hlt2 := hS.lt
  have HO2 := Lib.hid ho; have HZ2 := Lib.hid hz; have HS2 := Lib.hid hS
  have HR2 := Lib.hid (HR1.out.of_block (hB.block _ (by omega)))
  have HB2 := Lib.hid (HB1.out.trans (hB.mono (by omega)))
  clear ho hz hS hB HR1 HR0 HF
  go_wp2_with fail
  refine (specDraw4_any _ b w2 HS2.out).mono ?_; rintro e w3 ⟨p, rfl, hp, hS, hg⟩
  have HR3 := Lib.hid (row_grown HR2.out hg (by omega))
  have HO3 := Lib.hid (HO2.out.grown hg (by omega))
  have HB3 := Lib.hid (HB2.out.trans (grown_below hg (by omega) (by omega))); have HP := Lib.hid hp
  have hz3 : w.heap.size ≤ w3.heap.size := HB3.out.size
  clear hg hS hp
  have HOF := Lib.hid (HO3.out.grown (putP_grown w3 w.heap.size p) (by omega))
  have HBF := Lib.hid (HB3.out.grown (putP_grown w3 w.heap.size p) hz3 (fun k hk => by cases hk; exact Nat.le_refl _))
  have d0 := HR3.out.cell (show 0 < 5 by omega); have d1 := HR3.out.cell (show 1 < 5 by omega); have d2 := HR3.out.cell (show 2 < 5 by omega); have d3 := HR3.out.cell (show 3 < 5 by omega); have d4 := HR3.out.cell (show 4 < 5 by omega)
  have e0 := HR3.out.frozen 0; have e1 := HR3.out.frozen 1; have e2 := HR3.out.frozen 2; have e3 := HR3.out.frozen 3; have e4 := HR3.out.frozen 4
  go_wp2_with fail
  (try simp only [Exit.inBlock, Exit.then])
  refine bodyPost_ret (v := .tuple #[.slice (some ⟨g, 0, none⟩) qs.length cap2, .agg #[.int .i64 p.num, .string p.fst, .string p.lst, .int .i64 p.born, .int .i64 p.zone]]) ?_ rfl ⟨g, cap2, qs, p, rfl, hlq, HZ2.out, HOF.out.pers, HP.out, HBF.out⟩
  rw [results_tmp_cell rfl]
  go_simp

def FindG (B b g cap : Nat) (qs : List Pers) (w1 w : World) : Prop := Src B 71 w b ∧ (Below B w1 w ∧ B ≤ w.heap.size) ∧ OwnP w (b + 1) (.slice (some ⟨g, 0, none⟩) qs.length cap) qs
theorem FindG.next {B b g cap : Nat} {qs : List Pers} {w1 w w' : World} (h : FindG B b g cap qs w1 w) (hs : Src B 71 w' b) (hg : w.grownBy w' (some b)) : FindG B b g cap qs w1 w' :=
  ⟨hs, ⟨h.2.1.1.grown hg h.2.1.2 (fun k hk => by cases hk; exact h.1.base), Nat.le_trans h.2.1.2 hg.size⟩, h.2.2.grown hg (Nat.lt_succ_self _)⟩
def FindF (b g cap : Nat) (qs : List Pers) : Nat → Value → World → Prop
  | 0, v, _ | 1, v, _ | 3, v, _ | 9, v, _ => v = .slice (some ⟨g, 0, none⟩) qs.length cap
  | 2, v, _ => v = .pointer (some ⟨b, 0, none⟩)
  | 4, v, _ => v = .int .i64 (qs.length : Int)
  | 5, v, _ => ∃ n : Nat, v = .int .i64 (n : Int) ∧ n < qs.length
  | 6, v, _ | 7, v, _ => ∃ n : Nat, v = .pointer (some ⟨g, n * 5, none⟩) ∧ n < qs.length
  | 8, v, _ | 10, v, _ => ∃ x, v = .int .i64 x
  | _, _, _ => True

set_option maxRecDepth 100000 in
set_option maxHeartbeats 2000000 in
theorem specDrawFindPerson_any (a : Option Addr) (len cap : Nat) (bs : List Int) (w : World) (hl : bs.length = len) (hm : len ≤ 4096) (h : BytesAt w.heap.size w a bs) :
    Calls Try.prog 17 #[.slice a len cap] w (DrewLI w) := by
  have HF := Lib.hid (specFrom_any a len cap bs w hl hm h); clear h hl
  go_enter Try.func17, Try.ntmps17
  go_wp2_with fail
  refine HF.out.mono ?_; rintro e w1 ⟨b, rfl, hS, hB⟩
  have hbB := hS.base
  have HB1 := Lib.hid hB; have HS1 := Lib.hid hS; clear hS hB
  go_wp2_with fail
  refine (specList4_any _ b w1 HS1.out).mono ?_; rintro e w2 ⟨v, qs, rfl, ho, hlq, hz, hS, hB⟩
  obtain ⟨g, cap2, rfl⟩ := ho.1
  have HO2 := Lib.hid ho; have HZ2 := Lib.hid hz; have HS2 := Lib.hid hS; have HB2 := Lib.hid (HB1.out.trans hB)
  clear ho hz hS hB HF
  by_cases hq0 : 0 < qs.length
  · go_wp2_with fail
    refine (specNext_any _ b 3 w2 (by omega) HS2.out).mono ?_; rintro e w3 ⟨x, rfl, hx, _, hS, hg⟩
    obtain ⟨l1, u1⟩ := hx (by omega)
    have HS3 := Lib.hid hS; have HO3 := Lib.hid (HO2.out.grown hg (by omega)); have HB3 := Lib.hid (HB2.out.trans (grown_below hg hbB HB2.out.size)); clear hS hg hx
    by_cases hx0 : 0 < x
    · go_wp2_with fail
      refine wp_region_facts2 (sz := 31) [4, 5] (by kernel_rfl) (by kernel_rfl) (by kernel_rfl) (fun _ => none) (fun _ _ => true) (by kernel_rfl) (by kernel_rfl) (FindG w.heap.size b g cap2 qs w) (fun _ _ _ => True) (FindF b g cap2 qs) rfl ⟨HS3.out.kept rfl (Below.drew (Below.refl _ _)), ⟨Below.drew HB3.out, HB3.out.size⟩, HO3.out.below (Below.drew (Below.refl _ _))⟩ ?_ ?_ ?_
      · intro i j v w4 w5 hi hj hkp hf hR
        unfold FindF at hf ⊢
        split at hf <;> first | exact hf | trivial
      · intro i o ho
        match i, ho with
        | 0, ho | 1, ho | 3, ho =>
          cases ho
          intro ev w' hc hfn hb hG hd
          have h3 : ev (.tmp 5) = .slice (some ⟨g, 0, none⟩) qs.length cap2 := hb 5 (by simp)
          refine stepTo_gen fun K' hK => ?_
          simp [go_sem, stepTo, hc, hfn, h3]
          exact hK _ _ ⟨hG, trivial, (fun h => by cases h), rfl⟩
        | 2, ho =>
          cases ho
          intro ev w' hc hfn hb hG hd
          have h3 : ev (.tmp 4) = .pointer (some ⟨b, 0, none⟩) := hb 4 (by simp)
          refine stepTo_gen fun K' hK => ?_
          simp [go_sem, stepTo, hc, hfn, h3]
          exact hK _ _ ⟨hG, trivial, (fun h => by cases h), rfl⟩
        | 4, ho =>
          cases ho
          intro ev w' hc hfn hb hG hd
          have h3 : ev (.tmp 21) = .slice (some ⟨g, 0, none⟩) qs.length cap2 := hd { on := 3, ground := .data } (by simp) rfl rfl _ rfl
          refine stepTo_gen fun K' hK => ?_
          simp [go_sem, stepTo, hc, hfn, h3]
          exact hK _ _ ⟨hG, trivial, (fun h => by cases h), rfl⟩
        | 5, ho =>
          cases ho
          intro ev w' hc hfn hb hG hd
          have h3 : ev (.tmp 20) = .pointer (some ⟨b, 0, none⟩) := hd { on := 2, ground := .data } (by simp) rfl rfl _ rfl
          have h4 : ev (.tmp 22) = .int .i64 (qs.length : Int) := hd { on := 4, ground := .data } (by simp) rfl rfl _ rfl
          refine stepTo_gen fun K' hK => ?_
          simp [go_sem, stepTo, hc, hfn, h3, h4]
          refine (specNext_any _ b qs.length w' (by omega) hG.1).mono ?_; rintro e w5 ⟨y, rfl, hy, hy1, hS, hg⟩
          obtain ⟨n, rfl, hn⟩ : ∃ n : Nat, y = n ∧ n < qs.length := by
            by_cases h1 : 1 < (qs.length : Int)
            · have := hy h1; exact ⟨y.toNat, by omega, by omega⟩
            · have := hy1 (by omega); exact ⟨0, by omega, hq0⟩
          exact ⟨_, rfl, hK _ _ ⟨hG.next hS hg, trivial, (fun h => by cases h), n, rfl, hn⟩⟩
        | 6, ho =>
          cases ho
          intro ev w' hc hfn hb hG hd
          have h3 : ev (.tmp 19) = .slice (some ⟨g, 0, none⟩) qs.length cap2 := hd { on := 1, ground := .data } (by simp) rfl rfl _ rfl
          obtain ⟨n, h4, hn⟩ : ∃ n : Nat, ev (.tmp 23) = .int .i64 (n : Int) ∧ n < qs.length := hd { on := 5, ground := .data } (by simp) rfl rfl _ rfl
          refine stepTo_gen fun K' hK => ?_
          simp [go_sem, stepTo, hc, hfn, h3, h4, hn]
          exact hK _ _ ⟨hG, trivial, (fun h => by cases h), n, rfl, hn⟩
        | 7, ho =>
          cases ho
          intro ev w' hc hfn hb hG hd
          obtain ⟨n, h4, hn⟩ : ∃ n : Nat, ev (.tmp 24) = .pointer (some ⟨g, n * 5, none⟩) ∧ n < qs.length := hd { on := 6, ground := .data } (by simp) rfl rfl _ rfl
          refine stepTo_gen fun K' hK => ?_
          simp [go_sem, stepTo, hc, hfn, h4, hn]
          exact hK _ _ ⟨hG, trivial, (fun h => by cases h), n, rfl, hn⟩
        | 8, ho =>
          cases ho
          intro ev w' hc hfn hb hG hd
          obtain ⟨n, h4, hn⟩ : ∃ n : Nat, ev (.tmp 25) = .pointer (some ⟨g, n * 5, none⟩) ∧ n < qs.length := hd { on := 7, ground := .data } (by simp) rfl rfl _ rfl
          have c0 := (hG.2.2.at (List.getElem?_eq_getElem hn)).1
          refine stepTo_gen fun K' hK => ?_
          simp [go_sem, stepTo, hc, hfn, h4, c0]
          exact hK _ _ ⟨hG, trivial, (fun h => by cases h), _, rfl⟩
        | 9, ho =>
          cases ho
          intro ev w' hc hfn hb hG hd
          have h3 : ev (.tmp 18) = .slice (some ⟨g, 0, none⟩) qs.length cap2 := hd { on := 0, ground := .data } (by simp) rfl rfl _ rfl
          refine stepTo_gen fun K' hK => ?_
          simp [go_sem, stepTo, hc, hfn, h3]
          exact hK _ _ ⟨hG, trivial, (fun h => by cases h), rfl⟩
        | 10, ho =>
          cases ho
          intro ev w' hc hfn hb hG hd
          obtain ⟨x, h3⟩ : ∃ x, ev (.tmp 26) = .int .i64 x := hd { on := 8, ground := .data } (by simp) rfl rfl _ rfl
          refine stepTo_gen fun K' hK => ?_
          simp [go_sem, stepTo, hc, hfn, h3]
          exact hK _ _ ⟨hG, trivial, (fun h => by cases h), x, rfl⟩
        | n + 11, ho => simp at ho
      · intro a w' hb hs hdf hG hf
        have h2 : a.eval (.tmp 2) = .slice (some ⟨g, 0, none⟩) qs.length cap2 := hf 9 _ rfl rfl
        obtain ⟨y, h3⟩ : ∃ y, a.eval (.tmp 3) = .int .i64 y := hf 10 _ rfl rfl
        obtain ⟨tmps, dfs⟩ := a
        simp only at hdf
        subst hdf
        have h2' : tmps.getD 2 undef = .slice (some ⟨g, 0, none⟩) qs.length cap2 := h2
        have h3' : tmps.getD 3 undef = .int .i64 y := h3
        have HX := Lib.hid hG.2.1.1; have HOX := Lib.hid hG.2.2
        clear hf hb h2 h3 hs hG
        go_wp2_with fail
        go_ret2
        exact ⟨g, cap2, qs, y, by rw [h2', h3'], hlq, HZ2.out, HOX.out.pers, HX.out⟩
    · go_wp2_with fail
      refine (specNext_any _ b 70 w3 (by omega) HS3.out).mono ?_; rintro e w4 ⟨y, rfl, hy, _, hS, hg⟩
      obtain ⟨l2, u2⟩ := hy (by omega)
      have HO4 := Lib.hid (HO3.out.grown hg (by omega)); have HB4 := Lib.hid (HB3.out.trans (grown_below hg hbB HB3.out.size)); clear hS hg hy
      go_wp2_with fail
      go_ret2
      exact ⟨g, cap2, qs, _, rfl, hlq, HZ2.out, HO4.out.pers, HB4.out⟩
  · go_wp2_with fail
    refine (specNext_any _ b 70 w2 (by omega) HS2.out).mono ?_; rintro e w4 ⟨y, rfl, hy, _, hS, hg⟩
    obtain ⟨l2, u2⟩ := hy (by omega)
    have HO4 := Lib.hid (HO2.out.grown hg (by omega)); have HB4 := Lib.hid (HB2.out.trans (grown_below hg hbB HB2.out.size)); clear hS hg hy
    go_wp2_with fail
    go_ret2
    exact ⟨g, cap2, qs, _, rfl, hlq, HZ2.out, HO4.out.pers, HB4.out⟩

end Go.Proofs.Ytlaeceglcmnhbaa
