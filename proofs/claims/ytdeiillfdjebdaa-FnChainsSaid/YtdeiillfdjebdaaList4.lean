/- Contract: spec.l04List draws a list of persons. -/
import Derived.Test.YtdeiillfdjebdaaChecked
import Derived.Test.YtdeiillfdjebdaaBase
import Derived.Test.YtdeiillfdjebdaaPure40
import Derived.Test.YtdeiillfdjebdaaPure6
import Derived.Test.YtdeiillfdjebdaaNext
import Derived.Test.YtdeiillfdjebdaaPersLaw
import Derived.Test.YtdeiillfdjebdaaPersSlice
import Derived.Test.YtdeiillfdjebdaaGood4
import Derived.Test.YtdeiillfdjebdaaDraw4
import Derived.Test.YtdeiillfdjebdaaIns
import Derived.Test.YtdeiillfdjebdaaIns2
import Derived.WalkKit
import Derived.WalkSpells
import Derived.WalkLawsBesides
import Derived.Lib.Hide
import Derived.IntWalk
import Derived.Deep.OwnRows
import Derived.Deep.MidRow
import Derived.Outline
namespace Go.Proofs.Ytdeiillfdjebdaa
open Go.RowKit Pure1 Pure2 Pure6 Pure40

theorem own_lit {w : World} {N : Nat} (q : Pers) (hN : N ≤ w.heap.size) : OwnP (w.alloc (.cells #[.int .i64 q.num, .string q.fst, .string q.lst, .int .i64 q.born, .int .i64 q.zone] 51)) N (.slice (some ⟨w.heap.size, 0, none⟩) 1 1) [q] :=
  ⟨⟨_, _, rfl⟩, World.ownsRow_lit w #[.int .i64 q.num, .string q.fst, .string q.lst, .int .i64 q.born, .int .i64 q.zone] 1 hN (by decide) rfl⟩
theorem own_empty {w : World} {N : Nat} (hN : N ≤ w.heap.size) : OwnP (w.alloc (.cells #[] 51)) N (.slice (some ⟨w.heap.size, 0, none⟩) 0 0) [] :=
  ⟨⟨_, _, rfl⟩, World.ownsRow_lit w #[] 0 hN (by decide) rfl⟩
theorem OwnP.grown {w w' : World} {N b : Nat} {v : Value} {ps : List Pers} (h : OwnP w N v ps) (hg : w.grownBy w' (some b)) (hb : b < N) : OwnP w' N v ps :=
  ⟨h.1, h.2.kept hg (by
    obtain ⟨g, cap, hv⟩ := h.1
    refine .inr ?_
    intro e
    have := (h.2.lt b e).1; omega)⟩
theorem OwnP.alloc {w : World} {N : Nat} {v : Value} {ps : List Pers} (h : OwnP w N v ps) (o : Obj) : OwnP (w.alloc o) N v ps := h.below (boxed w o)
theorem wpList_own_append {ops : Array Oper} {rest : List Oper} {o : Oper} {a : Act} {Q : Exit → Act → World → Prop} {w : World} {N : Nat} (hgd : o.guard = none) (s x : Operand)
    (ho : o.op = .call { callee := .builtin .append, args := #[s, x], argTypes := #[24, 24] })
    (v : Value) (ps : List Pers) (hs : a.eval s = v) (h : OwnP w N v ps) (ad : Addr) (m c : Nat) (qs : List Pers) (hm : qs.length = m) (hx : a.eval x = .slice (some ad) m c) (hq : ∀ j u, (flatP qs)[j]? = some u → w.cell? (ad.add j) = some u)
    (hl : ps.length + qs.length ≤ 100000) (hB : N ≤ w.heap.size)
    (hk : ∀ v' w', OwnP w' N v' (ps ++ qs) → w.grownBy w' v.ownBlock → wpList Try.prog ops Q rest (a.put o.dst v') w') : wpList Try.prog ops Q (o :: rest) a w := by
  obtain ⟨i, z, hi, hz, h5, h56, hzs⟩ := Try.info_pers'
  subst hm
  refine wpList_append_own (P := Try.prog) w hgd s x 24 ho N 51 i z 5 56 Try.underlying24 hi hz h5 h56 hzs (by omega) v ps.length (flatP ps) hs h.2 ad qs.length c (flatP qs) hx (flat_len qs) hq flat_one (by unfold maxLen; omega) (by omega) hB ?_
  intro v' w' h1 h2 h3
  refine hk v' w' ⟨?_, ?_⟩ h2
  · obtain ⟨g, cap, hv⟩ := h.1
    rcases h1.2 with ⟨h5, _⟩ | ⟨g', cap', cur, h5, _⟩
    · have := (h3.1 h5).1; rw [hv] at this; cases this
    · exact ⟨g', cap', by rw [h5, List.length_append]⟩
  · rw [List.length_append, flat_append]; exact h1
def lenP : Value → Nat
  | .slice _ n _ => n
  | _ => 0
theorem OwnP.len {w : World} {N : Nat} {v : Value} {ps : List Pers} (h : OwnP w N v ps) : lenP v = ps.length := by obtain ⟨⟨g, cap, rfl⟩, _⟩ := h; rfl
def SmallL (ps : List Pers) : Prop := ∀ q ∈ ps, Small q
theorem SmallL.snoc {ps : List Pers} {p : Pers} (h : SmallL ps) (hp : Small p) : SmallL (ps ++ [p]) := by
  intro q hq
  rcases List.mem_append.1 hq with hq | hq
  · exact h q hq
  · rw [List.mem_singleton.1 hq]; exact hp
theorem src_later {B b : Nat} {T : TypeId} {w w' : World} (h : Src B T w b) (hB : Below w.heap.size w w') : Src B T w' b :=
  h.kept (hB.block _ h.lt) (hB.mono (Nat.le_trans h.base (Nat.le_of_lt h.lt)))

/-- a list of persons is drawn -/
def GaveLs (B b : Nat) (w : World) (e : Ending) (w' : World) : Prop := ∃ v qs, e = .returned v ∧ OwnP w' (b + 1) v qs ∧ qs.length ≤ 40 ∧ SmallL qs ∧ Src B 96 w' b ∧ Below B w w'

set_option maxRecDepth 100000 in
set_option maxHeartbeats 2000000 in
theorem specList4_any (B b : Nat) (w : World) (h : Src B 96 w b) :
    Calls Try.prog 60 #[.pointer (some ⟨b, 0, none⟩)] w (GaveLs B b w) := by
  have hbB := h.base
  have hbw := h.lt
  have HC := Lib.hid (specNext_any B b 8 (w.alloc (.cells #[] 51)) (by omega) (h.alloc _)); clear h
  go_enter Try.func60, Try.ntmps60
  go_wp2_with fail
  refine HC.out.mono ?_; rintro e w1 ⟨x, rfl, hx, _, hS, hg⟩
  obtain ⟨l1, u1⟩ := hx (by omega)
  have HS := Lib.hid hS
  have HB := Lib.hid (((Below.refl B w).alloc (by omega) (.cells #[] 51)).trans (grown_below hg hbB (by simp; omega)))
  have HO := Lib.hid ((own_empty (w := w) (N := b + 1) (by omega)).grown hg (by omega))
  obtain ⟨n0, rfl⟩ := Int.eq_ofNat_of_zero_le l1
  clear hS hg hx l1
  go_wp2_with fail
  go_loopw [3, 4] (fun v i wr => ∃ (qs : List Pers) (m : Nat), i = .int .i64 m ∧ qs.length + m ≤ 7 ∧ SmallL qs ∧ OwnP wr (b + 1) v qs ∧ Src B 96 wr b ∧ Below B w wr) (fun _ i _ => (intOf i).toNat)
  case atStart => exact ⟨[], n0, rfl, by simp; omega, (fun q hq => by cases hq), HO.out, HS.out, HB.out⟩
  case round =>
    obtain ⟨qs, m, rfl, hm, hz, ho, hS, hB⟩ := hrel
    have HS := Lib.hid hS; have HB := Lib.hid hB; have HZ := Lib.hid hz
    have hbr := hS.lt
    obtain ⟨g, cap, rfl⟩ := ho.1
    have HO := Lib.hid ho
    clear ho hS hB HC hz
    by_cases hm0 : 0 < m
    · go_wp2_with fail
      refine (specGood4_any B b wr HS.out).mono ?_; rintro e w4 ⟨p, rfl, ⟨hp, _⟩, hS4, hg4⟩
      have hown := HO.out.grown hg4 (by omega)
      have HS4 := Lib.hid hS4; have HB4 := Lib.hid (HB.out.trans (grown_below hg4 hbB (by omega)))
      clear hS4 hg4
      go_wp2_with fail
      refine (specInsert_any (b + 1) g cap qs p w4 hown (by omega) HZ.out hp).mono ?_; rintro e w5 ⟨v5, qs5, rfl, ho5, hl5, hz5, hB5⟩
      have HO5 := Lib.hid ho5; have HZ5 := Lib.hid (show SmallL qs5 from hz5)
      have HS5 := Lib.hid (src_later HS4.out hB5); have HB5 := Lib.hid (HB4.out.trans (hB5.mono (Nat.le_trans HS4.out.base (Nat.le_of_lt HS4.out.lt))))
      clear hown ho5 hz5 hB5 hp
      go_wp2_with fail
      go_roundw
      case rel => exact ⟨qs5, m - 1, by go_num, by omega, HZ5.out, HO5.out, HS5.out, HB5.out⟩
      case measure => simp [intOf]; omega
    · go_wp2_with fail
      refine (specNext_any B b 24 wr (by omega) HS.out).mono ?_; rintro e w2 ⟨x2, rfl, hx2, _, hS2, hg2⟩
      have HO2 := Lib.hid (HO.out.grown hg2 (by omega))
      have hb2 := hS2.lt
      have HS2 := Lib.hid hS2; have HB2 := Lib.hid (HB.out.trans (grown_below hg2 hbB (by omega))); clear hS2 hg2 hx2
      by_cases hx0 : x2 = 0
      · have hx0' : (x2 == 0) = true := beq_iff_eq.2 hx0
        clear hx0
        go_wp2_with fail
        refine (specDraw4_any B b w2 HS2.out).mono ?_; rintro e w4 ⟨p, rfl, hp, hS4, hg4⟩
        have hown := (HO2.out.grown hg4 (by omega)).alloc (.cells #[.int .i64 p.num, .string p.fst, .string p.lst, .int .i64 p.born, .int .i64 p.zone] 51)
        have hlit := own_lit (w := w4) (N := b + 1) p hS4.lt
        have hsz4 : b + 1 ≤ (w4.alloc (.cells #[.int .i64 p.num, .string p.fst, .string p.lst, .int .i64 p.born, .int .i64 p.zone] 51)).heap.size := by have := hS4.lt; simp; omega
        have HS4 := Lib.hid (hS4.alloc (.cells #[.int .i64 p.num, .string p.fst, .string p.lst, .int .i64 p.born, .int .i64 p.zone] 51)); have HB4 := Lib.hid ((HB2.out.trans (grown_below hg4 hbB (by omega))).alloc (by have := hS4.lt; omega) (.cells #[.int .i64 p.num, .string p.fst, .string p.lst, .int .i64 p.born, .int .i64 p.zone] 51))
        have HZ4 := Lib.hid (HZ.out.snoc hp)
        clear hS4 hg4 hp
        go_wp2_with (at_builtin; refine wpList_own_append rfl _ _ rfl _ qs rfl hown ⟨w4.heap.size, 0, none⟩ 1 1 [p] rfl rfl ?c1 ?c2 ?c3 ?_)
        case c1 => intro j u hu; rw [Addr.add_mid, Nat.zero_add]; exact hlit.cell hu
        case c2 => simp; omega
        case c3 => exact hsz4
        intro v5 w5 ho5 hg5
        have HO5 := Lib.hid ho5
        have hne5 : ∀ k, some k = some g → b + 1 ≤ k := fun k hk => (hown.2.lt k (by rw [hk]; rfl)).1
        have hg5' : World.grownBy _ w5 (some g) := hg5
        have HS5 := Lib.hid (HS4.out.kept (hg5'.block b (by omega) (by intro e; have := hne5 b e; omega)) ((Below.refl B _).grown hg5' (by omega) (fun k hk => by have := hne5 k hk.symm; omega)))
        have HB5 := Lib.hid (HB4.out.grown hg5' (by omega) (fun k hk => by have := hne5 k hk.symm; omega))
        clear hown hlit hsz4 ho5 hg5 hg5' hne5
        go_wp2_with fail
        go_ret
        exact ⟨_, _, rfl, HO5.out, by simp; omega, HZ4.out, HS5.out, HB5.out⟩
      · have hx0' : (x2 == 0) = false := beq_eq_false_iff_ne.2 hx0
        clear hx0
        by_cases hx1 : x2 = 1
        · have hx1' : (x2 == 1) = true := beq_iff_eq.2 hx1
          clear hx1
          clear HO HS HB hbr
          go_wp2_with fail
          go_loopw [3, 5] (fun v i wr => ∃ (qs : List Pers) (k : Nat), i = .int .i64 k ∧ k ≤ 100 + qs.length ∧ qs.length ≤ 13 ∧ SmallL qs ∧ OwnP wr (b + 1) v qs ∧ Src B 96 wr b ∧ Below B w wr) (fun v _ _ => 14 - lenP v)
          case atStart => exact ⟨qs, 100, rfl, by omega, by omega, HZ.out, HO2.out, HS2.out, HB2.out⟩
          case round =>
            clear HO2 HS2 HB2 HZ hb2 hm
            obtain ⟨qs, k, rfl, hk, hl, hz, ho, hS, hB⟩ := hrel
            have HS := Lib.hid hS; have HB := Lib.hid hB; have HZ := Lib.hid hz
            have hbr := hS.lt
            obtain ⟨g, cap, rfl⟩ := ho.1
            have HO := Lib.hid ho
            clear ho hS hB hz
            go_wp2_with fail
            refine (specNext_any B b 2 _ (by omega) HS.out).mono ?_; rintro e w4 ⟨y, rfl, hy, _, hS4, hg4⟩
            obtain ⟨ly, uy⟩ := hy (by omega)
            have hown0 := HO.out.grown hg4 (by omega)
            have hbw4 := hS4.lt
            have HB4 := Lib.hid (HB.out.trans (grown_below hg4 hbB (by omega))); have HS4 := Lib.hid hS4
            clear hS4 hg4 hy
            by_cases hlt : (qs.length : Int) < 12 + y
            · have hp : Small ⟨(k : Int), ⟨#[105, 100, 97]⟩, ⟨#[116, 97, 108]⟩, 1970, 0⟩ := ⟨(by decide : (⟨#[105, 100, 97]⟩ : ByteArray).size ≤ 20), (by decide : (⟨#[116, 97, 108]⟩ : ByteArray).size ≤ 20), ⟨(by omega : (-100 : Int) ≤ k), (by omega : (k : Int) ≤ 1000001)⟩, (by decide : (-100 : Int) ≤ 1970 ∧ (1970 : Int) ≤ 1000001), (by decide : (-100 : Int) ≤ 0 ∧ (0 : Int) ≤ 1000001)⟩
              have hown := hown0.alloc (.cells #[.int .i64 (k : Int), .string ⟨#[105, 100, 97]⟩, .string ⟨#[116, 97, 108]⟩, .int .i64 1970, .int .i64 0] 51)
              have hlit := own_lit (w := w4) (N := b + 1) ⟨(k : Int), ⟨#[105, 100, 97]⟩, ⟨#[116, 97, 108]⟩, 1970, 0⟩ hbw4
              have hsz4 : b + 1 ≤ (w4.alloc (.cells #[.int .i64 (k : Int), .string ⟨#[105, 100, 97]⟩, .string ⟨#[116, 97, 108]⟩, .int .i64 1970, .int .i64 0] 51)).heap.size := by simp; omega
              have HS5 := Lib.hid (HS4.out.alloc (.cells #[.int .i64 (k : Int), .string ⟨#[105, 100, 97]⟩, .string ⟨#[116, 97, 108]⟩, .int .i64 1970, .int .i64 0] 51)); have HB5 := Lib.hid (HB4.out.alloc (by omega) (.cells #[.int .i64 (k : Int), .string ⟨#[105, 100, 97]⟩, .string ⟨#[116, 97, 108]⟩, .int .i64 1970, .int .i64 0] 51))
              have HZ4 := Lib.hid (HZ.out.snoc hp)
              clear hp
              go_wp2_with (at_builtin; refine wpList_own_append rfl _ _ rfl _ qs rfl hown ⟨w4.heap.size, 0, none⟩ 1 1 [⟨(k : Int), ⟨#[105, 100, 97]⟩, ⟨#[116, 97, 108]⟩, 1970, 0⟩] rfl rfl ?c1 ?c2 ?c3 ?_)
              case c1 => intro j u hu; rw [Addr.add_mid, Nat.zero_add]; exact hlit.cell hu
              case c2 => simp; omega
              case c3 => exact hsz4
              intro v5 w5 ho5 hg5
              have HO6 := Lib.hid ho5
              have hne5 : ∀ k, some k = some g → b + 1 ≤ k := fun k hk => (hown.2.lt k (by rw [hk]; rfl)).1
              have hg5' : World.grownBy _ w5 (some g) := hg5
              have HS6 := Lib.hid (HS5.out.kept (hg5'.block b (by omega) (by intro e; have := hne5 b e; omega)) ((Below.refl B _).grown hg5' (by omega) (fun k hk => by have := hne5 k hk.symm; omega)))
              have HB6 := Lib.hid (HB5.out.grown hg5' (by omega) (fun k hk => by have := hne5 k hk.symm; omega))
              have HL6 := Lib.hid (show lenP v5 = qs.length + 1 by rw [ho5.len, List.length_append]; rfl)
              clear hown hown0 hlit hsz4 ho5 hg5 hg5' hne5
              go_wp2_with fail
              go_roundw
              case rel => exact ⟨_, k + 1, by go_num, by simp; omega, by simp; omega, HZ4.out, HO6.out, HS6.out, HB6.out⟩
              case measure => rw [HL6.out]; show _ < 14 - qs.length; omega
            · have HO4 := Lib.hid hown0
              clear hown0
              go_wp2_with fail
              go_ret
              exact ⟨_, _, rfl, HO4.out, by omega, HZ.out, HS4.out, HB4.out⟩
        · have hx1' : (x2 == 1) = false := beq_eq_false_iff_ne.2 hx1
          clear hx1
          go_wp2_with fail
          go_ret
          exact ⟨_, _, rfl, HO2.out, by omega, HZ.out, HS2.out, HB2.out⟩

end Go.Proofs.Ytdeiillfdjebdaa
