/- Lists of candidates of our own; contract: spec.l06List draws a list of candidates. -/
import Derived.Test.YtjnjmoiilapbiaaChecked
import Derived.Test.YtjnjmoiilapbiaaBase
import Derived.Test.YtjnjmoiilapbiaaPure40
import Derived.Test.YtjnjmoiilapbiaaPure6
import Derived.Test.YtjnjmoiilapbiaaPure61
import Derived.Test.YtjnjmoiilapbiaaNext
import Derived.Test.YtjnjmoiilapbiaaPick
import Derived.Test.YtjnjmoiilapbiaaDrawW
import Derived.Test.YtjnjmoiilapbiaaPersLaw
import Derived.Test.YtjnjmoiilapbiaaGood4
import Derived.Test.YtjnjmoiilapbiaaDraw4
import Derived.Test.YtjnjmoiilapbiaaTruth6
import Derived.Test.YtjnjmoiilapbiaaRulLaw6
import Derived.Test.YtjnjmoiilapbiaaDrawR6
import Derived.Test.YtjnjmoiilapbiaaDrawC6
import Derived.Test.YtjnjmoiilapbiaaCandLaw6
import Derived.WalkKit
import Derived.WalkSpells
import Derived.WalkLawsBesides
import Derived.Lib.Hide
import Derived.IntWalk
import Derived.Deep.OwnRows
import Derived.Deep.MidRow
import Derived.Maps.AppendAt
import Derived.OwnWalk
import Derived.Outline
namespace Go.Proofs.Ytjnjmoiilapbiaa
open Go.RowKit Pure1 Pure2 Pure6 Pure40 Pure61

def flatC (ps : List Cand) : List Value := ps.flatMap Cand.cells
theorem flatc_nil : flatC [] = [] := rfl
theorem flatc_cons (p : Cand) (ps : List Cand) : flatC (p :: ps) = p.cells ++ flatC ps := rfl
theorem flatc_append (ps qs : List Cand) : flatC (ps ++ qs) = flatC ps ++ flatC qs := by simp [flatC]
theorem flatc_len : ∀ ps : List Cand, (flatC ps).length = ps.length * 9
  | [] => rfl
  | p :: ps => by rw [flatc_cons, List.length_append, flatc_len ps, List.length_cons]; show 9 + _ = _; omega
theorem flatc_at {ps : List Cand} {i : Nat} {p : Cand} (h : ps[i]? = some p) : ∀ k, k < 9 → (flatC ps)[i * 9 + k]? = p.cells[k]? := by
  induction ps generalizing i with
  | nil => simp at h
  | cons q qs ih =>
    intro k hk
    rw [flatc_cons]
    cases i with
    | zero =>
      simp at h; subst h
      rw [List.getElem?_append_left (by show 0 * 9 + k < 9; omega)]
      congr 1; omega
    | succ i =>
      rw [List.getElem?_append_right (by show 9 ≤ _; omega)]
      have := ih (i := i) (by simpa using h) k hk
      rw [show (i + 1) * 9 + k - q.cells.length = i * 9 + k from by show (i + 1) * 9 + k - 9 = _; omega]
      exact this
theorem flatc_one {ps : List Cand} : ∀ u ∈ flatC ps, u.oneCell' = true := by
  intro u hu
  obtain ⟨p, _, hp⟩ := List.mem_flatMap.1 hu
  simp only [Cand.cells, List.mem_cons, List.not_mem_nil, or_false] at hp
  rcases hp with rfl | rfl | rfl | rfl | rfl | rfl | rfl | rfl | rfl <;> rfl

/-- a list of persons of our own -/
def OwnC (w : World) (B : Nat) (v : Value) (ps : List Cand) : Prop :=
  (∃ g cap, v = .slice (some ⟨g, 0, none⟩) ps.length cap) ∧ w.ownsRow B 30 9 v ps.length (flatC ps)
theorem OwnC.cell {w : World} {B g cap n : Nat} {ps : List Cand} (h : OwnC w B (.slice (some ⟨g, 0, none⟩) n cap) ps) {j : Nat} {u : Value} (hu : (flatC ps)[j]? = some u) : w.cell? ⟨g, j, none⟩ = some u := by
  have := h.2.cells (g := g) rfl j u hu
  rw [show (⟨g, 0, none⟩ : Addr).add j = ⟨g, j, none⟩ from by simp [Addr.add]; intro h; exact h.symm] at this
  exact this
theorem OwnC.at {w : World} {B g cap n : Nat} {ps : List Cand} (h : OwnC w B (.slice (some ⟨g, 0, none⟩) n cap) ps) {i : Nat} {p : Cand} (hp : ps[i]? = some p) : AtC w g (i * 9) p :=
  ⟨h.cell (flatc_at hp 0 (by omega)), h.cell (flatc_at hp 1 (by omega)), h.cell (flatc_at hp 2 (by omega)), h.cell (flatc_at hp 3 (by omega)), h.cell (flatc_at hp 4 (by omega)), h.cell (flatc_at hp 5 (by omega)), h.cell (flatc_at hp 6 (by omega)), h.cell (flatc_at hp 7 (by omega)), h.cell (flatc_at hp 8 (by omega))⟩
theorem OwnC.cands {w : World} {B g cap n : Nat} {ps : List Cand} (h : OwnC w B (.slice (some ⟨g, 0, none⟩) n cap) ps) : CandsAt w (some ⟨g, 0, none⟩) ps :=
  .inr ⟨g, 0, rfl, fun i p hp => by rw [Nat.zero_add]; exact h.at hp⟩
theorem OwnC.below {w w' : World} {B : Nat} {v : Value} {ps : List Cand} (h : OwnC w B v ps) (hb : Below w.heap.size w w') : OwnC w' B v ps := by
  obtain ⟨⟨g, cap, rfl⟩, h1, h2⟩ := h
  refine ⟨⟨g, cap, rfl⟩, h1, ?_⟩
  rcases h2 with ⟨h3, _⟩ | ⟨g', cap', cur, h3, h4, h5, h6⟩
  · cases h3
  · exact .inr ⟨g', cap', cur, h3, h4, (hb.block _ (Array.getElem?_eq_some_iff.1 h5).1).trans h5, h6⟩
theorem OwnC.base {w : World} {B B' : Nat} {v : Value} {ps : List Cand} (h : OwnC w B v ps) (hb : B' ≤ B) : OwnC w B' v ps := by
  obtain ⟨h0, h1, h2⟩ := h
  refine ⟨h0, h1, ?_⟩
  rcases h2 with h3 | ⟨g', cap', cur, h3, h4, h5⟩
  · exact .inl h3
  · exact .inr ⟨g', cap', cur, h3, Nat.le_trans hb h4, h5⟩

theorem Try.info_cand' : ∃ i z, Try.prog.info? 30 = some i ∧ i.zero = some z ∧ i.size = 9 ∧ i.bytes = 72 ∧ z.cells.size = 9 := by
  obtain ⟨i, hi, hzz⟩ := Option.map_eq_some_iff.1 Try.info_cand
  simp only [Prod.mk.injEq] at hzz
  exact ⟨i, _, hi, hzz.1, hzz.2.1, hzz.2.2, rfl⟩

theorem ownC_lit {w : World} {N : Nat} (q : Cand) (hN : N ≤ w.heap.size) : OwnC (w.alloc (.cells #[.int .i64 q.p.num, .string q.p.fst, .string q.p.lst, .int .i64 q.p.born, .int .i64 q.p.zone, .bool q.cit, .bool q.con, .bool q.flu, .int .i64 q.job] 30)) N (.slice (some ⟨w.heap.size, 0, none⟩) 1 1) [q] :=
  ⟨⟨_, _, rfl⟩, World.ownsRow_lit w #[.int .i64 q.p.num, .string q.p.fst, .string q.p.lst, .int .i64 q.p.born, .int .i64 q.p.zone, .bool q.cit, .bool q.con, .bool q.flu, .int .i64 q.job] 1 hN (by decide) rfl⟩
theorem ownC_empty {w : World} {N : Nat} (hN : N ≤ w.heap.size) : OwnC (w.alloc (.cells #[] 30)) N (.slice (some ⟨w.heap.size, 0, none⟩) 0 0) [] :=
  ⟨⟨_, _, rfl⟩, World.ownsRow_lit w #[] 0 hN (by decide) rfl⟩
theorem OwnC.grown {w w' : World} {N b : Nat} {v : Value} {ps : List Cand} (h : OwnC w N v ps) (hg : w.grownBy w' (some b)) (hb : b < N) : OwnC w' N v ps :=
  ⟨h.1, h.2.kept hg (by
    obtain ⟨g, cap, hv⟩ := h.1
    refine .inr ?_
    intro e
    have := (h.2.lt b e).1; omega)⟩
theorem OwnC.alloc {w : World} {N : Nat} {v : Value} {ps : List Cand} (h : OwnC w N v ps) (o : Obj) : OwnC (w.alloc o) N v ps := h.below (boxed w o)
theorem wpList_cand_append {ops : Array Oper} {rest : List Oper} {o : Oper} {a : Act} {Q : Exit → Act → World → Prop} {w : World} {N : Nat} (hgd : o.guard = none) (s x : Operand)
    (ho : o.op = .call { callee := .builtin .append, args := #[s, x], argTypes := #[37, 37] })
    (v : Value) (ps : List Cand) (hs : a.eval s = v) (h : OwnC w N v ps) (ad : Addr) (m c : Nat) (qs : List Cand) (hm : qs.length = m) (hx : a.eval x = .slice (some ad) m c) (hq : ∀ j u, (flatC qs)[j]? = some u → w.cell? (ad.add j) = some u)
    (hl : ps.length + qs.length ≤ 100000) (hB : N ≤ w.heap.size)
    (hk : ∀ v' w', OwnC w' N v' (ps ++ qs) → w.grownBy w' v.ownBlock → wpList Try.prog ops Q rest (a.put o.dst v') w') : wpList Try.prog ops Q (o :: rest) a w := by
  obtain ⟨i, z, hi, hz, h5, h56, hzs⟩ := Try.info_cand'
  subst hm
  refine wpList_append_own (P := Try.prog) w hgd s x 37 ho N 30 i z 9 72 Try.underlying37 hi hz h5 h56 hzs (by omega) v ps.length (flatC ps) hs h.2 ad qs.length c (flatC qs) hx (flatc_len qs) hq flatc_one (by unfold maxLen; omega) (by omega) hB ?_
  intro v' w' h1 h2 h3
  refine hk v' w' ⟨?_, ?_⟩ h2
  · obtain ⟨g, cap, hv⟩ := h.1
    rcases h1.2 with ⟨h5, _⟩ | ⟨g', cap', cur, h5, _⟩
    · have := (h3.1 h5).1; rw [hv] at this; cases this
    · exact ⟨g', cap', by rw [h5, List.length_append]⟩
  · rw [List.length_append, flatc_append]; exact h1
theorem wpList_cand_append_at {ops : Array Oper} {rest : List Oper} {o : Oper} {a : Act} {Q : Exit → Act → World → Prop} {w : World} {N : Nat} (hgd : o.guard = none) (s x : Operand)
    (ho : o.op = .call { callee := .builtin .append, args := #[s, x], argTypes := #[37, 37] })
    (v : Value) (ps : List Cand) (hs : a.eval s = v) (h : OwnC w N v ps) (ad : Addr) (m c : Nat) (qs : List Cand) (hm : qs.length = m) (hx : a.eval x = .slice (some ad) m c) (hq : ∀ j u, (flatC qs)[j]? = some u → w.cell? (ad.add j) = some u)
    (hl : ps.length + qs.length ≤ 100000) (hB : N ≤ w.heap.size)
    (hk : ∀ v' w', OwnC w' N v' (ps ++ qs) → w.grownBy w' v.ownBlock → (v'.ownBlock = v.ownBlock ∨ v'.ownBlock = some w.heap.size) → wpList Try.prog ops Q rest (a.put o.dst v') w') : wpList Try.prog ops Q (o :: rest) a w := by
  obtain ⟨i, z, hi, hz, h5, h56, hzs⟩ := Try.info_cand'
  subst hm
  refine wpList_append_own_at (P := Try.prog) w hgd s x 37 ho N 30 i z 9 72 Try.underlying37 hi hz h5 h56 hzs (by omega) v ps.length (flatC ps) hs h.2 ad qs.length c (flatC qs) hx (flatc_len qs) hq flatc_one (by unfold maxLen; omega) (by omega) hB ?_
  intro v' w' h1 h2 h3 h4
  refine hk v' w' ⟨?_, ?_⟩ h2 h4
  · obtain ⟨g, cap, hv⟩ := h.1
    rcases h1.2 with ⟨h5, _⟩ | ⟨g', cap', cur, h5, _⟩
    · have := (h3.1 h5).1; rw [hv] at this; cases this
    · exact ⟨g', cap', by rw [h5, List.length_append]⟩
  · rw [List.length_append, flatc_append]; exact h1
def lenC : Value → Nat
  | .slice _ n _ => n
  | _ => 0
theorem OwnC.len {w : World} {N : Nat} {v : Value} {ps : List Cand} (h : OwnC w N v ps) : lenC v = ps.length := by obtain ⟨⟨g, cap, rfl⟩, _⟩ := h; rfl
/-- small candidates -/
def SmallCs (cs : List Cand) : Prop := ∀ q ∈ cs, SmallC q
theorem SmallCs.snoc {cs : List Cand} {c : Cand} (h : SmallCs cs) (hc : SmallC c) : SmallCs (cs ++ [c]) := by
  intro q hq
  rcases List.mem_append.1 hq with hq | hq
  · exact h q hq
  · rw [List.mem_singleton.1 hq]; exact hc
/-- what was there is kept but for b, also where a block of our own grows -/
theorem grown_own {w w1 w2 : World} {b g : Nat} (h : w.grownBy w1 (some b)) (hg : w1.grownBy w2 (some g)) (hN : w.heap.size ≤ g) : w.grownBy w2 (some b) :=
  ⟨hg.os.trans h.os, hg.tape.trans h.tape, hg.output.trans h.output, Nat.le_trans h.size hg.size, fun k hk hne => (hg.block k (Nat.lt_of_lt_of_le hk h.size) (fun e => by have := Option.some.inj e; omega)).trans (h.block k hk hne)⟩
/-- a list of candidates is drawn -/
def GaveCs (B b : Nat) (w : World) (e : Ending) (w' : World) : Prop := ∃ v cs, e = .returned v ∧ OwnC w' w.heap.size v cs ∧ cs.length ≤ 61 ∧ SmallCs cs ∧ Src B 93 w' b ∧ w.grownBy w' (some b)

set_option maxRecDepth 100000 in
set_option maxHeartbeats 4000000 in
theorem specList6_any (B b : Nat) (w : World) (h : Src B 93 w b) :
    Calls Try.prog 53 #[.pointer (some ⟨b, 0, none⟩)] w (GaveCs B b w) := by
  have hbB := h.base
  have hbw := h.lt
  have HC := Lib.hid (specNext_any B b 7 (w.alloc (.cells #[] 30)) (by omega) (h.alloc _)); clear h
  go_enter Try.func53, Try.ntmps53
  go_wp2_with fail
  refine HC.out.mono ?_; rintro e w1 ⟨x, rfl, hx, _, hS, hg⟩
  obtain ⟨l1, u1⟩ := hx (by omega)
  have HS := Lib.hid hS
  have HB := Lib.hid (grown_trans (grown_alloc w (.cells #[] 30) (some b)) hg)
  have HO := Lib.hid ((ownC_empty (w := w) (N := w.heap.size) (Nat.le_refl _)).grown hg hbw)
  obtain ⟨n0, rfl⟩ := Int.eq_ofNat_of_zero_le l1
  clear hS hg hx l1
  go_wp2_with fail
  go_loopw [3, 4] (fun v i wr => ∃ (cs : List Cand) (m : Nat), i = .int .i64 m ∧ cs.length + m ≤ 6 ∧ SmallCs cs ∧ OwnC wr w.heap.size v cs ∧ Src B 93 wr b ∧ w.grownBy wr (some b)) (fun _ i _ => (intOf i).toNat)
  case atStart => exact ⟨[], n0, rfl, by simp; omega, (fun q hq => by cases hq), HO.out, HS.out, HB.out⟩
  case round =>
    obtain ⟨cs, m, rfl, hm, hz, ho, hS, hB⟩ := hrel
    have HS := Lib.hid hS; have HB := Lib.hid hB; have HZ := Lib.hid hz
    have hbr := hS.lt
    obtain ⟨g, cap, rfl⟩ := ho.1
    have HO := Lib.hid ho
    clear ho hS hB HC hz
    by_cases hm0 : 0 < m
    · go_wp2_with fail
      refine (specCand6_any B b wr HS.out).mono ?_; rintro e w4 ⟨c, rfl, hc, hS4, hg4⟩
      have hown := (HO.out.grown hg4 (by omega)).alloc (.cells #[.int .i64 c.p.num, .string c.p.fst, .string c.p.lst, .int .i64 c.p.born, .int .i64 c.p.zone, .bool c.cit, .bool c.con, .bool c.flu, .int .i64 c.job] 30)
      have hlit := ownC_lit (w := w4) (N := w.heap.size) c (Nat.le_trans HB.out.size hg4.size)
      have hsz4 : w.heap.size ≤ (w4.alloc (.cells #[.int .i64 c.p.num, .string c.p.fst, .string c.p.lst, .int .i64 c.p.born, .int .i64 c.p.zone, .bool c.cit, .bool c.con, .bool c.flu, .int .i64 c.job] 30)).heap.size := by have := HB.out.size; have := hg4.size; simp; omega
      have HS4 := Lib.hid (hS4.alloc (.cells #[.int .i64 c.p.num, .string c.p.fst, .string c.p.lst, .int .i64 c.p.born, .int .i64 c.p.zone, .bool c.cit, .bool c.con, .bool c.flu, .int .i64 c.job] 30)); have HB4 := Lib.hid (grown_trans (grown_trans HB.out hg4) (grown_alloc w4 (.cells #[.int .i64 c.p.num, .string c.p.fst, .string c.p.lst, .int .i64 c.p.born, .int .i64 c.p.zone, .bool c.cit, .bool c.con, .bool c.flu, .int .i64 c.job] 30) (some b)))
      have HZ4 := Lib.hid (HZ.out.snoc hc)
      clear hS4 hg4 hc
      go_wp2_with (at_builtin; refine wpList_cand_append rfl _ _ rfl _ cs rfl hown ⟨w4.heap.size, 0, none⟩ 1 1 [c] rfl rfl ?c1 ?c2 ?c3 ?_)
      case c1 => intro j u hu; rw [Addr.add_mid, Nat.zero_add]; exact hlit.cell hu
      case c2 => simp; omega
      case c3 => exact hsz4
      intro v5 w5 ho5 hg5
      have HO5 := Lib.hid ho5
      have hne5 : ∀ k, some k = some g → w.heap.size ≤ k := fun k hk => (hown.2.lt k (by rw [hk]; rfl)).1
      have hg5' : World.grownBy _ w5 (some g) := hg5
      have HS5 := Lib.hid (HS4.out.kept (hg5'.block b (by have := HS4.out.lt; omega) (by intro e; have := hne5 b e; omega)) ((Below.refl B _).grown hg5' (by omega) (fun k hk => by have := hne5 k hk.symm; omega)))
      have HB5 := Lib.hid (grown_own HB4.out hg5' (hne5 g rfl))
      clear hown hlit hsz4 ho5 hg5 hg5' hne5
      go_wp2_with fail
      go_roundw
      case rel => exact ⟨_, m - 1, by go_num, by simp; omega, HZ4.out, HO5.out, HS5.out, HB5.out⟩
      case measure => simp [intOf]; omega
    · go_wp2_with fail
      refine (specNext_any B b 30 wr (by omega) HS.out).mono ?_; rintro e w2 ⟨x2, rfl, hx2, _, hS2, hg2⟩
      have HO2 := Lib.hid (HO.out.grown hg2 (by omega))
      have hb2 := hS2.lt
      have HS2 := Lib.hid hS2; have HB2 := Lib.hid (grown_trans HB.out hg2); clear hS2 hg2 hx2
      by_cases hx0 : x2 = 0
      · have hx0' : (x2 == 0) = true := beq_iff_eq.2 hx0
        clear hx0 HO HS HB hbr
        go_wp2_with fail
        refine (specGood4_any B b w2 HS2.out).mono ?_; rintro e w3 ⟨p, rfl, ⟨hp, _⟩, hS3, hg3⟩
        have hb3 := hS3.lt
        have HP := Lib.hid (show SmallC ⟨p, false, false, false, 0⟩ from ⟨hp, (by show (-1 : Int) ≤ 0; decide), (by show (0 : Int) ≤ 21; decide)⟩)
        have HO3 := Lib.hid ((HO2.out.grown hg3 (by omega)).alloc (.cells #[.int .i64 p.num, .string p.fst, .string p.lst, .int .i64 p.born, .int .i64 p.zone, .bool false, .bool false, .bool false, .int .i64 0] 30))
        have HS3 := Lib.hid (hS3.alloc (.cells #[.int .i64 p.num, .string p.fst, .string p.lst, .int .i64 p.born, .int .i64 p.zone, .bool false, .bool false, .bool false, .int .i64 0] 30))
        have HB3 := Lib.hid (grown_trans (grown_trans HB2.out hg3) (grown_alloc w3 (.cells #[.int .i64 p.num, .string p.fst, .string p.lst, .int .i64 p.born, .int .i64 p.zone, .bool false, .bool false, .bool false, .int .i64 0] 30) (some b)))
        have HX3 := Lib.hid (rowV_box w3 (.int .i64 p.num) (.string p.fst) (.string p.lst) (.int .i64 p.born) (.int .i64 p.zone) (.bool false) (.bool false) (.bool false) (.int .i64 0))
        have hxb : w3.heap.size < (w3.alloc (.cells #[.int .i64 p.num, .string p.fst, .string p.lst, .int .i64 p.born, .int .i64 p.zone, .bool false, .bool false, .bool false, .int .i64 0] 30)).heap.size := by simp
        have hgx : g < w3.heap.size := Nat.lt_of_lt_of_le (HO2.out.2.lt g rfl).2 hg3.size
        clear hp hS3 hg3
        go_wp2_with fail
        generalize w3.alloc (.cells #[.int .i64 p.num, .string p.fst, .string p.lst, .int .i64 p.born, .int .i64 p.zone, .bool false, .bool false, .bool false, .int .i64 0] 30) = w5 at HO3 HS3 HB3 HX3 hxb ⊢
        obtain ⟨xb, hxe⟩ : ∃ xb, w3.heap.size = xb := ⟨_, rfl⟩
        rw [hxe] at HX3 hxb hb3 hgx ⊢
        clear hxe
        have hxne : xb ≠ b := by omega
        go_loopw [3] (fun v wr => ∃ (cs : List Cand), cs.length ≤ 61 ∧ SmallCs cs ∧ (∃ g0, v.ownBlock = some g0 ∧ g0 ≠ xb) ∧ xb < wr.heap.size ∧ RowV xb wr (.int .i64 p.num) (.string p.fst) (.string p.lst) (.int .i64 p.born) (.int .i64 p.zone) (.bool false) (.bool false) (.bool false) (.int .i64 0) ∧ OwnC wr w.heap.size v cs ∧ Src B 93 wr b ∧ w.grownBy wr (some b)) (fun v _ => 62 - lenC v)
        case atStart => exact ⟨cs, by omega, HZ.out, ⟨g, rfl, Nat.ne_of_lt hgx⟩, hxb, HX3.out, HO3.out, HS3.out, HB3.out⟩
        case round =>
          obtain ⟨cs, hl, hz, ⟨g0, hg0, hg1⟩, hxl, hrow, ho, hS, hB⟩ := hrel
          have HS := Lib.hid hS; have HB := Lib.hid hB; have HZ := Lib.hid hz
          have hbr := hS.lt
          obtain ⟨g, cap, rfl⟩ := ho.1
          obtain rfl : g = g0 := Option.some.inj hg0
          have HO := Lib.hid ho; have HX := Lib.hid hrow
          clear ho hS hB hz hrow hg0
          go_wp2_with fail
          refine (specNext_any B b 2 _ (by omega) HS.out).mono ?_; rintro e w4 ⟨y, rfl, hy, _, hS4, hg4⟩
          obtain ⟨ly, uy⟩ := hy (by omega)
          have hown0 := HO.out.grown hg4 (by omega)
          have hbw4 := hS4.lt
          have HB4 := Lib.hid (grown_trans HB.out hg4); have HS4 := Lib.hid hS4; have HX4 := Lib.hid (HX.out.grown hg4 hxne)
          have hx4 : xb < w4.heap.size := Nat.lt_of_lt_of_le hxl hg4.size
          clear hS4 hg4 hy
          by_cases hlt : (cs.length : Int) < 60 + y
          · obtain ⟨k0, k1, k2, k3, k4, k5, k6, k7, k8⟩ := HX4.out.cells
            have hown := hown0.alloc (.cells #[.int .i64 p.num, .string p.fst, .string p.lst, .int .i64 p.born, .int .i64 p.zone, .bool false, .bool false, .bool false, .int .i64 0] 30)
            have hlit := ownC_lit (w := w4) (N := w.heap.size) ⟨p, false, false, false, 0⟩ HB4.out.size
            have hsz4 : w.heap.size ≤ (w4.alloc (.cells #[.int .i64 p.num, .string p.fst, .string p.lst, .int .i64 p.born, .int .i64 p.zone, .bool false, .bool false, .bool false, .int .i64 0] 30)).heap.size := by have := HB4.out.size; simp; omega
            have hx5 : xb < (w4.alloc (.cells #[.int .i64 p.num, .string p.fst, .string p.lst, .int .i64 p.born, .int .i64 p.zone, .bool false, .bool false, .bool false, .int .i64 0] 30)).heap.size := by simp; omega
            have HS5 := Lib.hid (HS4.out.alloc (.cells #[.int .i64 p.num, .string p.fst, .string p.lst, .int .i64 p.born, .int .i64 p.zone, .bool false, .bool false, .bool false, .int .i64 0] 30)); have HB5 := Lib.hid (grown_trans HB4.out (grown_alloc w4 (.cells #[.int .i64 p.num, .string p.fst, .string p.lst, .int .i64 p.born, .int .i64 p.zone, .bool false, .bool false, .bool false, .int .i64 0] 30) (some b))); have HX5 := Lib.hid (HX4.out.below (boxed w4 (.cells #[.int .i64 p.num, .string p.fst, .string p.lst, .int .i64 p.born, .int .i64 p.zone, .bool false, .bool false, .bool false, .int .i64 0] 30)))
            have HZ4 := Lib.hid (HZ.out.snoc HP.out)
            go_wp2_with (at_builtin; refine wpList_cand_append_at rfl _ _ rfl _ cs rfl hown ⟨w4.heap.size, 0, none⟩ 1 1 [⟨p, false, false, false, 0⟩] rfl rfl ?c1 ?c2 ?c3 ?_)
            case c1 => intro j u hu; rw [Addr.add_mid, Nat.zero_add]; exact hlit.cell hu
            case c2 => simp; omega
            case c3 => exact hsz4
            intro v5 w5 ho5 hg5 hnb
            have HO6 := Lib.hid ho5
            have hne5 : ∀ k, some k = some g → w.heap.size ≤ k := fun k hk => (hown.2.lt k (by rw [hk]; rfl)).1
            have hg5' : World.grownBy _ w5 (some g) := hg5
            have HS6 := Lib.hid (HS5.out.kept (hg5'.block b (by omega) (by intro e; have := hne5 b e; omega)) ((Below.refl B _).grown hg5' (by omega) (fun k hk => by have := hne5 k hk.symm; omega)))
            have HB6 := Lib.hid (grown_own HB5.out hg5' (hne5 g rfl))
            have HX6 := Lib.hid (HX5.out.grown hg5' (fun e => hg1 e.symm))
            have HL6 := Lib.hid (show lenC v5 = cs.length + 1 by rw [ho5.len, List.length_append]; rfl)
            have HG6 := Lib.hid (show ∃ g0, v5.ownBlock = some g0 ∧ g0 ≠ xb from by
              rcases hnb with e | e
              · exact ⟨g, e, hg1⟩
              · exact ⟨_, e, fun e2 => by omega⟩)
            have hx6 : xb < w5.heap.size := Nat.lt_of_lt_of_le hx5 hg5'.size
            clear hown hown0 hlit hsz4 ho5 hg5 hg5' hne5 hnb k0 k1 k2 k3 k4 k5 k6 k7 k8
            go_wp2_with fail
            go_roundw
            case rel => exact ⟨_, by simp; omega, HZ4.out, HG6.out, hx6, HX6.out, HO6.out, HS6.out, HB6.out⟩
            case measure => rw [HL6.out]; show _ < 62 - cs.length; omega
          · have HO4 := Lib.hid hown0
            clear hown0
            go_wp2_with fail
            go_ret
            exact ⟨_, _, rfl, HO4.out, by omega, HZ.out, HS4.out, HB4.out⟩
      · have hx0' : (x2 == 0) = false := beq_eq_false_iff_ne.2 hx0
        clear hx0
        go_wp2_with fail
        go_ret
        exact ⟨_, _, rfl, HO2.out, by omega, HZ.out, HS2.out, HB2.out⟩

end Go.Proofs.Ytjnjmoiilapbiaa
