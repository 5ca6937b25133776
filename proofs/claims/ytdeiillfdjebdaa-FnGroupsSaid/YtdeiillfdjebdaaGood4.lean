/- Contract: spec.l04Good draws a person. -/
import Derived.Test.YtdeiillfdjebdaaChecked
import Derived.Test.YtdeiillfdjebdaaBase
import Derived.Test.YtdeiillfdjebdaaPure40
import Derived.Test.YtdeiillfdjebdaaPure6
import Derived.Test.YtdeiillfdjebdaaNext
import Derived.Test.YtdeiillfdjebdaaDrawW
import Derived.Test.YtdeiillfdjebdaaPersLaw
import Derived.Test.YtdeiillfdjebdaaFacts
import Derived.WalkKit
import Derived.WalkSpells
import Derived.WalkLawsBesides
import Derived.Lib.Hide
import Derived.IntWalk
import Derived.Outline
namespace Go.Proofs.Ytdeiillfdjebdaa
open Go.RowKit Pure2 Pure6 Pure40

/-- a person whose names are short and whose numbers are small -/
def Small (p : Pers) : Prop := p.fst.size ≤ 20 ∧ p.lst.size ≤ 20 ∧ (-100 ≤ p.num ∧ p.num ≤ 1000001) ∧ (-100 ≤ p.born ∧ p.born ≤ 1000001) ∧ (-100 ≤ p.zone ∧ p.zone ≤ 1000001)
/-- a person is handed out -/
def GaveP (B b : Nat) (w : World) (e : Ending) (w' : World) : Prop := ∃ p : Pers, e = .returned (.agg #[.int .i64 p.num, .string p.fst, .string p.lst, .int .i64 p.born, .int .i64 p.zone]) ∧ Small p ∧ Src B 96 w' b ∧ w.grownBy w' (some b)

/-- .. whose numbers are not negative -/
def Small0 (p : Pers) : Prop := Small p ∧ 0 ≤ p.num ∧ 0 ≤ p.born ∧ 0 ≤ p.zone
def GaveP0 (B b : Nat) (w : World) (e : Ending) (w' : World) : Prop := ∃ p : Pers, e = .returned (.agg #[.int .i64 p.num, .string p.fst, .string p.lst, .int .i64 p.born, .int .i64 p.zone]) ∧ Small0 p ∧ Src B 96 w' b ∧ w.grownBy w' (some b)

/-- below block w.heap.size nothing has turned but blocks b and rv -/
structure Two (b rv : Nat) (w w' : World) : Prop where
  os : w'.os = w.os
  tape : w'.tape = w.tape
  output : w'.output = w.output
  size : w.heap.size ≤ w'.heap.size
  block : ∀ k, k < w.heap.size → k ≠ b → k ≠ rv → w'.heap[k]? = w.heap[k]?
theorem Two.refl (b rv : Nat) (w : World) : Two b rv w w := ⟨rfl, rfl, rfl, Nat.le_refl _, fun _ _ _ _ => rfl⟩
theorem Two.trans {b rv : Nat} {w w' w'' : World} (h : Two b rv w w') (h' : Two b rv w' w'') : Two b rv w w'' :=
  ⟨h'.os.trans h.os, h'.tape.trans h.tape, h'.output.trans h.output, Nat.le_trans h.size h'.size, fun k hk h1 h2 => (h'.block k (Nat.lt_of_lt_of_le hk h.size) h1 h2).trans (h.block k hk h1 h2)⟩
theorem Two.grown {b rv : Nat} {w w' : World} (h : w.grownBy w' (some b)) : Two b rv w w' :=
  ⟨h.os, h.tape, h.output, h.size, fun k hk h1 _ => h.block k hk (fun e => h1 (Option.some.inj e))⟩
theorem Two.alloc (b rv : Nat) (w : World) (o : Obj) : Two b rv w (w.alloc o) := ⟨rfl, rfl, rfl, by simp, fun k hk _ _ => Below.heap_alloc _ _ _ hk⟩
theorem Two.cell {b rv : Nat} {w w' : World} (h : Two b rv w w') {g o : Nat} {v : Value} (hc : w.cell? ⟨g, o, none⟩ = some v) (h1 : g ≠ b) (h2 : g ≠ rv) : w'.cell? ⟨g, o, none⟩ = some v :=
  (World.cell?_of_block (w := w) (h.block g (World.block_lt_of_cell? w _ hc) h1 h2)).trans hc
theorem Two.set {b rv o : Nat} {w w' : World} (h : Two b rv w w') (v : Value) : Two b rv w (w'.setCell ⟨rv, o, none⟩ v) :=
  h.trans ⟨rfl, rfl, rfl, by simp [World.setCell], fun k hk _ h2 => Below.heap_setCell _ _ _ _ h2⟩

/-- what always holds while a person is put together: the source, the block of the result -/
def GoodG (B b rv : Nat) (w1 w : World) : Prop := Src B 96 w b ∧ Two b rv w1 w ∧ rv < w.heap.size ∧ ∃ f, w.rowIs rv 51 5 f
/-- a list of texts that was laid -/
def Laid (b rv : Nat) (ss : List ByteArray) (v : Value) (w : World) : Prop := ∃ g, v = .slice (some ⟨g, 0, none⟩) ss.length ss.length ∧ g ≠ b ∧ g ≠ rv ∧ ∀ (i : Nat) (s : ByteArray), ss[i]? = some s → w.cell? ⟨g, i, none⟩ = some (.string s)
def IntIn (lo hi : Int) (v : Value) : Prop := ∃ x, v = .int .i64 x ∧ lo ≤ x ∧ x ≤ hi
def NatIn (hi : Nat) (v : Value) : Prop := ∃ n : Nat, v = .int .i64 (n : Int) ∧ n < hi
/-- the address of a short text -/
def TextAt (b rv : Nat) (v : Value) (w : World) : Prop := ∃ (g n : Nat) (s : ByteArray), v = .pointer (some ⟨g, n, none⟩) ∧ g ≠ b ∧ g ≠ rv ∧ s.size ≤ 20 ∧ w.cell? ⟨g, n, none⟩ = some (.string s)
def Text (v : Value) : Prop := ∃ s : ByteArray, v = .string s ∧ s.size ≤ 20

def firsts4 : List ByteArray := [⟨#[97, 100, 97]⟩, ⟨#[97, 100, 97, 109]⟩, ⟨#[101, 118, 97]⟩, ⟨#[101, 118, 105]⟩, ⟨#[105, 100, 97]⟩]
def lasts4 : List ByteArray := [⟨#[98, 101, 114, 103]⟩, ⟨#[98, 117, 114, 103]⟩, ⟨#[98, 101, 114, 103, 115]⟩, ⟨#[115, 116, 101, 105, 110]⟩, ⟨#[116, 97, 108]⟩]
theorem firsts4_size : ∀ s ∈ firsts4, s.size ≤ 20 := by decide
theorem lasts4_size : ∀ s ∈ lasts4, s.size ≤ 20 := by decide

/-- what each operation leaves -/
def GoodF (b rv : Nat) : Nat → Value → World → Prop
  | 0, v, _ | 4, v, _ | 9, v, _ | 13, v, _ | 16, v, _ | 21, v, _ => v = .pointer (some ⟨b, 0, none⟩)
  | 1, v, _ => IntIn 0 59 v
  | 2, v, _ => IntIn 1 60 v
  | 3, v, w => Laid b rv firsts4 v w
  | 5, v, _ | 10, v, _ => NatIn 5 v
  | 6, v, w | 11, v, w => TextAt b rv v w
  | 7, v, _ | 12, v, _ => Text v
  | 8, v, w => Laid b rv lasts4 v w
  | 14, v, _ | 22, v, _ => IntIn 0 2 v
  | 15, v, _ => IntIn 1970 1972 v
  | 17, v, _ => IntIn 0 4 v
  | 18, v, _ => IntIn 0 1 v
  | 19, v, _ => IntIn 0 8 v
  | 20, v, _ => IntIn 1970 1980 v
  | 23, v, _ => ∃ p : Pers, v = .agg #[.int .i64 p.num, .string p.fst, .string p.lst, .int .i64 p.born, .int .i64 p.zone] ∧ Small0 p
  | 24, _, w => ∃ p : Pers, Small0 p ∧ AtB w rv p
  | _, _, _ => True

theorem Laid.mono {b rv : Nat} {ss : List ByteArray} {v : Value} {w w' : World} (h : Laid b rv ss v w) (ht : Two b rv w w') : Laid b rv ss v w' := by
  obtain ⟨g, e, h1, h2, h3⟩ := h
  exact ⟨g, e, h1, h2, fun i s hs => ht.cell (h3 i s hs) h1 h2⟩
theorem TextAt.mono {b rv : Nat} {v : Value} {w w' : World} (h : TextAt b rv v w) (ht : Two b rv w w') : TextAt b rv v w' := by
  obtain ⟨g, n, s, e, h1, h2, h3, h4⟩ := h
  exact ⟨g, n, s, e, h1, h2, h3, ht.cell h4 h1 h2⟩
theorem laid_new {b rv : Nat} (w : World) (T : TypeId) (ss : List ByteArray) (hb : b < w.heap.size) (hr : rv < w.heap.size) : Laid b rv ss (.slice (some ⟨w.heap.size, 0, none⟩) ss.length ss.length) (w.alloc (.cells (ss.map Value.string).toArray T)) :=
  ⟨_, rfl, by omega, by omega, alloc_strs w T ss⟩
theorem laid_at {b rv : Nat} {ss : List ByteArray} {v u : Value} {w : World} (h : Laid b rv ss v w) (hss : ∀ s ∈ ss, s.size ≤ 20) (hu : NatIn ss.length u) : ∃ g n s, v = .slice (some ⟨g, 0, none⟩) ss.length ss.length ∧ u = .int .i64 ((n : Nat) : Int) ∧ n < ss.length ∧ g ≠ b ∧ g ≠ rv ∧ s.size ≤ 20 ∧ w.cell? ⟨g, n, none⟩ = some (.string s) := by
  obtain ⟨g, rfl, h1, h2, h3⟩ := h
  obtain ⟨n, rfl, hn⟩ := hu
  have hx : ss[n]? = some ss[n] := List.getElem?_eq_getElem hn
  exact ⟨g, n, ss[n], rfl, rfl, hn, h1, h2, hss _ (List.mem_of_getElem? hx), h3 n _ hx⟩
/-- how the world may turn: the block of the result holds what it held, or a person -/
def GoodR (b rv : Nat) (w w' : World) : Prop := Two b rv w w' ∧ (w'.heap[rv]? = w.heap[rv]? ∨ ∃ p : Pers, Small0 p ∧ AtB w' rv p)
theorem AtB_block {w w' : World} {b : Nat} {p : Pers} (h : AtB w b p) (e : w'.heap[b]? = w.heap[b]?) : AtB w' b p := by
  have hc : ∀ o, w'.cell? ⟨b, o, none⟩ = w.cell? ⟨b, o, none⟩ := fun o => World.cell?_of_block (w := w) e
  obtain ⟨h0, h1, h2, h3, h4⟩ := h
  exact ⟨(hc _).trans h0, (hc _).trans h1, (hc _).trans h2, (hc _).trans h3, (hc _).trans h4⟩
theorem GoodR.same {b rv : Nat} (w : World) : GoodR b rv w w := ⟨Two.refl _ _ _, .inl rfl⟩
theorem GoodG.drew {B b rv : Nat} {w1 w : World} (h : GoodG B b rv w1 w) : GoodG B b rv w1 w.drew := by
  obtain ⟨h1, h2, h3, f, h4⟩ := h
  exact ⟨h1.kept rfl (Below.drew (Below.refl _ _)), ⟨h2.os, h2.tape, h2.output, h2.size, h2.block⟩, h3, f, h4⟩
theorem GoodG.alloc {B b rv : Nat} {w1 w : World} (h : GoodG B b rv w1 w) (o : Obj) : GoodG B b rv w1 (w.alloc o) := by
  obtain ⟨h1, h2, h3, f, h4⟩ := h
  exact ⟨h1.alloc o, h2.trans (Two.alloc _ _ _ _), by simp; omega, f, h4.alloc o⟩
theorem GoodG.next {B b rv : Nat} {w1 w w' : World} (h : GoodG B b rv w1 w) (hne : rv ≠ b) (hs : Src B 96 w' b) (hg : w.grownBy w' (some b)) : GoodG B b rv w1 w' := by
  obtain ⟨h1, h2, h3, f, h4⟩ := h
  exact ⟨hs, h2.trans (Two.grown hg), Nat.lt_of_lt_of_le h3 hg.size, f, h4.of_block (hg.block rv h3 (fun e => hne (Option.some.inj e)))⟩

set_option maxRecDepth 100000 in
set_option maxHeartbeats 4000000 in
theorem specGood4_any (B b : Nat) (w : World) (h : Src B 96 w b) :
    Calls Try.prog 84 #[.pointer (some ⟨b, 0, none⟩)] w (GaveP0 B b w) := by
  have hlt := h.lt
  have hG0 : GoodG B b w.heap.size (w.alloc (.cells #[.int .i64 0, .string ⟨#[]⟩, .string ⟨#[]⟩, .int .i64 0, .int .i64 0] 51)) (w.alloc (.cells #[.int .i64 0, .string ⟨#[]⟩, .string ⟨#[]⟩, .int .i64 0, .int .i64 0] 51)) :=
    ⟨h.alloc _, Two.refl _ _ _, by simp, fun i => (#[Value.int .i64 0, .string ⟨#[]⟩, .string ⟨#[]⟩, .int .i64 0, .int .i64 0] : Array Value)[i]?.getD undef, World.rowIs_alloc w #[.int .i64 0, .string ⟨#[]⟩, .string ⟨#[]⟩, .int .i64 0, .int .i64 0] 51 _ (fun i hi => by rw [Array.getElem?_eq_getElem hi]; rfl)⟩
  have HG0 := Lib.hid hG0
  have hT1 : w.grownBy (w.alloc (.cells #[.int .i64 0, .string ⟨#[]⟩, .string ⟨#[]⟩, .int .i64 0, .int .i64 0] 51)) (some b) := grown_alloc _ _ _
  have HT1 := Lib.hid hT1
  clear h hG0 hT1
  go_enter Try.func84, Try.ntmps84
  go_wp2_with fail
  generalize w.alloc (.cells #[.int .i64 0, .string ⟨#[]⟩, .string ⟨#[]⟩, .int .i64 0, .int .i64 0] 51) = w1 at HG0 HT1 ⊢
  obtain ⟨rv, hrv⟩ : ∃ rv, w.heap.size = rv := ⟨_, rfl⟩
  rw [hrv] at HG0 hlt ⊢
  have HRV := Lib.hid hrv
  clear hrv
  have hne : rv ≠ b := by omega
  refine wp_region_facts (sz := 27) [0, 2] (by kernel_rfl) (by kernel_rfl) (by kernel_rfl) (GoodG B b rv w1) (GoodR b rv) (GoodF b rv) rfl HG0.out.drew ?_ ?_ ?_
  · intro j v w2 w3 hf hR
    unfold GoodF at hf ⊢
    split at hf <;> first | exact hf | exact hf.mono hR.1 | trivial | skip
    obtain ⟨p, hp, hat⟩ := hf
    rcases hR.2 with e | hx
    · exact ⟨p, hp, AtB_block hat e⟩
    · exact hx
  · intro i o ho
    match i, ho with
    | 0, ho =>
      cases ho
      intro ev w' hc hfn hb hG hd
      have h0 : ev (.tmp 0) = .pointer (some ⟨b, 0, none⟩) := hb 0 (by simp)
      refine stepTo_gen fun K' hK => ?_
      simp [go_sem, stepTo, hc, hfn, h0]
      exact hK _ _ ⟨hG, GoodR.same _, (fun h => by cases h), rfl⟩
    | 1, ho =>
      cases ho
      intro ev w' hc hfn hb hG hd
      have h3 : ev (.tmp 3) = .pointer (some ⟨b, 0, none⟩) := hd { on := 0, ground := .data } (by simp) rfl _ rfl
      refine stepTo_gen fun K' hK => ?_
      simp [go_sem, stepTo, hc, hfn, h3]
      refine (specNext_any B b 60 w' (by omega) hG.1).mono ?_; rintro e w2 ⟨x, rfl, hx, _, hS, hg⟩
      obtain ⟨l1, u1⟩ := hx (by omega)
      exact ⟨_, rfl, hK _ _ ⟨hG.next hne hS hg, ⟨Two.grown hg, .inl (hg.block rv hG.2.2.1 (fun e => hne (Option.some.inj e)))⟩, (fun h => by cases h), ⟨x, rfl, by omega, by omega⟩⟩⟩
    | 2, ho =>
      cases ho
      intro ev w' hc hfn hb hG hd
      obtain ⟨x, h4, hx0, hx1⟩ : IntIn 0 59 (ev (.tmp 4)) := hd { on := 1, ground := .data } (by simp) rfl _ rfl
      have q1 : IntKind.i64.wrap (1 + x) = 1 + x := IntWalk.i64_in _ (by omega)
      refine stepTo_gen fun K' hK => ?_
      simp [go_sem, stepTo, hc, hfn, h4, q1]
      exact hK _ _ ⟨hG, GoodR.same _, (fun h => by cases h), _, rfl, by omega, by omega⟩
    | 3, ho =>
      cases ho
      intro ev w' hc hfn hb hG hd
      refine stepTo_gen fun K' hK => ?_
      simp [go_sem, stepTo, hc, hfn]
      exact hK _ _ ⟨hG.alloc _, ⟨Two.alloc _ _ _ _, .inl (Below.heap_alloc _ _ _ hG.2.2.1)⟩, (fun h => by cases h), laid_new w' 9 firsts4 hG.1.lt hG.2.2.1⟩
    | 4, ho =>
      cases ho
      intro ev w' hc hfn hb hG hd
      have h0 : ev (.tmp 0) = .pointer (some ⟨b, 0, none⟩) := hb 0 (by simp)
      refine stepTo_gen fun K' hK => ?_
      simp [go_sem, stepTo, hc, hfn, h0]
      exact hK _ _ ⟨hG, GoodR.same _, (fun h => by cases h), rfl⟩
    | 5, ho =>
      cases ho
      intro ev w' hc hfn hb hG hd
      have h3 : ev (.tmp 7) = .pointer (some ⟨b, 0, none⟩) := hd { on := 4, ground := .data } (by simp) rfl _ rfl
      refine stepTo_gen fun K' hK => ?_
      simp [go_sem, stepTo, hc, hfn, h3]
      refine (specNext_any B b 5 w' (by omega) hG.1).mono ?_; rintro e w2 ⟨x, rfl, hx, _, hS, hg⟩
      obtain ⟨l1, u1⟩ := hx (by omega)
      exact ⟨_, rfl, hK _ _ ⟨hG.next hne hS hg, ⟨Two.grown hg, .inl (hg.block rv hG.2.2.1 (fun e => hne (Option.some.inj e)))⟩, (fun h => by cases h), ⟨x.toNat, by rw [Int.toNat_of_nonneg l1], by omega⟩⟩⟩
    | 6, ho =>
      cases ho
      intro ev w' hc hfn hb hG hd
      obtain ⟨g, n, s, h6, h8, hn, hgb, hgr, hs, hcell⟩ := laid_at (show Laid b rv firsts4 (ev (.tmp 6)) w' from hd { on := 3, ground := .data } (by simp) rfl _ rfl) firsts4_size (show NatIn 5 (ev (.tmp 8)) from hd { on := 5, ground := .data } (by simp) rfl _ rfl)
      have hn' : (n : Int) < 5 := by have : n < 5 := hn; omega
      have h6' : ev (.tmp 6) = .slice (some ⟨g, 0, none⟩) 5 5 := h6
      refine stepTo_gen fun K' hK => ?_
      simp [go_sem, stepTo, hc, hfn, h6', h8, hn']
      exact hK _ _ ⟨hG, GoodR.same _, (fun h => by cases h), g, n, s, rfl, hgb, hgr, hs, hcell⟩
    | 7, ho =>
      cases ho
      intro ev w' hc hfn hb hG hd
      obtain ⟨g, n, s, h9, hgb, hgr, hs, hcell⟩ : TextAt b rv (ev (.tmp 9)) w' := hd { on := 6, ground := .data } (by simp) rfl _ rfl
      refine stepTo_gen fun K' hK => ?_
      simp [go_sem, stepTo, hc, hfn, h9, hcell]
      exact hK _ _ ⟨hG, GoodR.same _, (fun h => by cases h), s, rfl, hs⟩
    | 8, ho =>
      cases ho
      intro ev w' hc hfn hb hG hd
      refine stepTo_gen fun K' hK => ?_
      simp [go_sem, stepTo, hc, hfn]
      exact hK _ _ ⟨hG.alloc _, ⟨Two.alloc _ _ _ _, .inl (Below.heap_alloc _ _ _ hG.2.2.1)⟩, (fun h => by cases h), laid_new w' 9 lasts4 hG.1.lt hG.2.2.1⟩
    | 9, ho =>
      cases ho
      intro ev w' hc hfn hb hG hd
      have h0 : ev (.tmp 0) = .pointer (some ⟨b, 0, none⟩) := hb 0 (by simp)
      refine stepTo_gen fun K' hK => ?_
      simp [go_sem, stepTo, hc, hfn, h0]
      exact hK _ _ ⟨hG, GoodR.same _, (fun h => by cases h), rfl⟩
    | 10, ho =>
      cases ho
      intro ev w' hc hfn hb hG hd
      have h3 : ev (.tmp 12) = .pointer (some ⟨b, 0, none⟩) := hd { on := 9, ground := .data } (by simp) rfl _ rfl
      refine stepTo_gen fun K' hK => ?_
      simp [go_sem, stepTo, hc, hfn, h3]
      refine (specNext_any B b 5 w' (by omega) hG.1).mono ?_; rintro e w2 ⟨x, rfl, hx, _, hS, hg⟩
      obtain ⟨l1, u1⟩ := hx (by omega)
      exact ⟨_, rfl, hK _ _ ⟨hG.next hne hS hg, ⟨Two.grown hg, .inl (hg.block rv hG.2.2.1 (fun e => hne (Option.some.inj e)))⟩, (fun h => by cases h), ⟨x.toNat, by rw [Int.toNat_of_nonneg l1], by omega⟩⟩⟩
    | 11, ho =>
      cases ho
      intro ev w' hc hfn hb hG hd
      obtain ⟨g, n, s, h6, h8, hn, hgb, hgr, hs, hcell⟩ := laid_at (show Laid b rv lasts4 (ev (.tmp 11)) w' from hd { on := 8, ground := .data } (by simp) rfl _ rfl) lasts4_size (show NatIn 5 (ev (.tmp 13)) from hd { on := 10, ground := .data } (by simp) rfl _ rfl)
      have hn' : (n : Int) < 5 := by have : n < 5 := hn; omega
      have h6' : ev (.tmp 11) = .slice (some ⟨g, 0, none⟩) 5 5 := h6
      refine stepTo_gen fun K' hK => ?_
      simp [go_sem, stepTo, hc, hfn, h6', h8, hn']
      exact hK _ _ ⟨hG, GoodR.same _, (fun h => by cases h), g, n, s, rfl, hgb, hgr, hs, hcell⟩
    | 12, ho =>
      cases ho
      intro ev w' hc hfn hb hG hd
      obtain ⟨g, n, s, h9, hgb, hgr, hs, hcell⟩ : TextAt b rv (ev (.tmp 14)) w' := hd { on := 11, ground := .data } (by simp) rfl _ rfl
      refine stepTo_gen fun K' hK => ?_
      simp [go_sem, stepTo, hc, hfn, h9, hcell]
      exact hK _ _ ⟨hG, GoodR.same _, (fun h => by cases h), s, rfl, hs⟩
    | 13, ho =>
      cases ho
      intro ev w' hc hfn hb hG hd
      have h0 : ev (.tmp 0) = .pointer (some ⟨b, 0, none⟩) := hb 0 (by simp)
      refine stepTo_gen fun K' hK => ?_
      simp [go_sem, stepTo, hc, hfn, h0]
      exact hK _ _ ⟨hG, GoodR.same _, (fun h => by cases h), rfl⟩
    | 14, ho =>
      cases ho
      intro ev w' hc hfn hb hG hd
      have h3 : ev (.tmp 16) = .pointer (some ⟨b, 0, none⟩) := hd { on := 13, ground := .data } (by simp) rfl _ rfl
      refine stepTo_gen fun K' hK => ?_
      simp [go_sem, stepTo, hc, hfn, h3]
      refine (specNext_any B b 3 w' (by omega) hG.1).mono ?_; rintro e w2 ⟨x, rfl, hx, _, hS, hg⟩
      obtain ⟨l1, u1⟩ := hx (by omega)
      exact ⟨_, rfl, hK _ _ ⟨hG.next hne hS hg, ⟨Two.grown hg, .inl (hg.block rv hG.2.2.1 (fun e => hne (Option.some.inj e)))⟩, (fun h => by cases h), ⟨x, rfl, by omega, by omega⟩⟩⟩
    | 15, ho =>
      cases ho
      intro ev w' hc hfn hb hG hd
      obtain ⟨x, h4, hx0, hx1⟩ : IntIn 0 2 (ev (.tmp 17)) := hd { on := 14, ground := .data } (by simp) rfl _ rfl
      have q1 : IntKind.i64.wrap (1970 + x) = 1970 + x := IntWalk.i64_in _ (by omega)
      refine stepTo_gen fun K' hK => ?_
      simp [go_sem, stepTo, hc, hfn, h4, q1]
      exact hK _ _ ⟨hG, GoodR.same _, (fun h => by cases h), _, rfl, by omega, by omega⟩
    | 16, ho =>
      cases ho
      intro ev w' hc hfn hb hG hd
      have h0 : ev (.tmp 0) = .pointer (some ⟨b, 0, none⟩) := hb 0 (by simp)
      refine stepTo_gen fun K' hK => ?_
      simp [go_sem, stepTo, hc, hfn, h0]
      exact hK _ _ ⟨hG, GoodR.same _, (fun h => by cases h), rfl⟩
    | 17, ho =>
      cases ho
      intro ev w' hc hfn hb hG hd
      have h3 : ev (.tmp 19) = .pointer (some ⟨b, 0, none⟩) := hd { on := 16, ground := .data } (by simp) rfl _ rfl
      refine stepTo_gen fun K' hK => ?_
      simp [go_sem, stepTo, hc, hfn, h3]
      refine (specNext_any B b 5 w' (by omega) hG.1).mono ?_; rintro e w2 ⟨x, rfl, hx, _, hS, hg⟩
      obtain ⟨l1, u1⟩ := hx (by omega)
      exact ⟨_, rfl, hK _ _ ⟨hG.next hne hS hg, ⟨Two.grown hg, .inl (hg.block rv hG.2.2.1 (fun e => hne (Option.some.inj e)))⟩, (fun h => by cases h), ⟨x, rfl, by omega, by omega⟩⟩⟩
    | 18, ho =>
      cases ho
      intro ev w' hc hfn hb hG hd
      obtain ⟨x, h4, hx0, hx1⟩ : IntIn 0 4 (ev (.tmp 20)) := hd { on := 17, ground := .data } (by simp) rfl _ rfl
      have hx2 : x = 0 ∨ x = 1 ∨ x = 2 ∨ x = 3 ∨ x = 4 := by omega
      refine stepTo_gen fun K' hK => ?_
      rcases hx2 with rfl | rfl | rfl | rfl | rfl
      all_goals
        simp [go_sem, stepTo, hc, hfn, h4]
        exact hK _ _ ⟨hG, GoodR.same _, (fun h => by cases h), _, rfl, by decide, by decide⟩
    | 19, ho =>
      cases ho
      intro ev w' hc hfn hb hG hd
      obtain ⟨x, h4, hx0, hx1⟩ : IntIn 0 1 (ev (.tmp 21)) := hd { on := 18, ground := .data } (by simp) rfl _ rfl
      have q1 : IntKind.i64.wrap (8 * x) = 8 * x := IntWalk.i64_in _ (by omega)
      refine stepTo_gen fun K' hK => ?_
      simp [go_sem, stepTo, hc, hfn, h4, q1]
      exact hK _ _ ⟨hG, GoodR.same _, (fun h => by cases h), _, rfl, by omega, by omega⟩
    | 20, ho =>
      cases ho
      intro ev w' hc hfn hb hG hd
      obtain ⟨x, h4, hx0, hx1⟩ : IntIn 1970 1972 (ev (.tmp 18)) := hd { on := 15, ground := .data } (by simp) rfl _ rfl
      obtain ⟨y, h5, hy0, hy1⟩ : IntIn 0 8 (ev (.tmp 22)) := hd { on := 19, ground := .data } (by simp) rfl _ rfl
      have q1 : IntKind.i64.wrap (x + y) = x + y := IntWalk.i64_in _ (by omega)
      refine stepTo_gen fun K' hK => ?_
      simp [go_sem, stepTo, hc, hfn, h4, h5, q1]
      exact hK _ _ ⟨hG, GoodR.same _, (fun h => by cases h), _, rfl, by omega, by omega⟩
    | 21, ho =>
      cases ho
      intro ev w' hc hfn hb hG hd
      have h0 : ev (.tmp 0) = .pointer (some ⟨b, 0, none⟩) := hb 0 (by simp)
      refine stepTo_gen fun K' hK => ?_
      simp [go_sem, stepTo, hc, hfn, h0]
      exact hK _ _ ⟨hG, GoodR.same _, (fun h => by cases h), rfl⟩
    | 22, ho =>
      cases ho
      intro ev w' hc hfn hb hG hd
      have h3 : ev (.tmp 24) = .pointer (some ⟨b, 0, none⟩) := hd { on := 21, ground := .data } (by simp) rfl _ rfl
      refine stepTo_gen fun K' hK => ?_
      simp [go_sem, stepTo, hc, hfn, h3]
      refine (specNext_any B b 3 w' (by omega) hG.1).mono ?_; rintro e w2 ⟨x, rfl, hx, _, hS, hg⟩
      obtain ⟨l1, u1⟩ := hx (by omega)
      exact ⟨_, rfl, hK _ _ ⟨hG.next hne hS hg, ⟨Two.grown hg, .inl (hg.block rv hG.2.2.1 (fun e => hne (Option.some.inj e)))⟩, (fun h => by cases h), ⟨x, rfl, by omega, by omega⟩⟩⟩
    | 23, ho =>
      cases ho
      intro ev w' hc hfn hb hG hd
      obtain ⟨x, h5, hx0, hx1⟩ : IntIn 1 60 (ev (.tmp 5)) := hd { on := 2, ground := .data } (by simp) rfl _ rfl
      obtain ⟨f, h10, hf⟩ : Text (ev (.tmp 10)) := hd { on := 7, ground := .data } (by simp) rfl _ rfl
      obtain ⟨l, h15, hl⟩ : Text (ev (.tmp 15)) := hd { on := 12, ground := .data } (by simp) rfl _ rfl
      obtain ⟨y, h23, hy0, hy1⟩ : IntIn 1970 1980 (ev (.tmp 23)) := hd { on := 20, ground := .data } (by simp) rfl _ rfl
      obtain ⟨z, h25, hz0, hz1⟩ : IntIn 0 2 (ev (.tmp 25)) := hd { on := 22, ground := .data } (by simp) rfl _ rfl
      refine stepTo_gen fun K' hK => ?_
      simp [go_sem, stepTo, hc, hfn, h5, h10, h15, h23, h25]
      have hp : Small0 ⟨x, f, l, y, z⟩ := ⟨⟨hf, hl, ⟨(by omega : -100 ≤ x), (by omega : x ≤ 1000001)⟩, ⟨(by omega : -100 ≤ y), (by omega : y ≤ 1000001)⟩, (by omega : -100 ≤ z), (by omega : z ≤ 1000001)⟩, (by omega : 0 ≤ x), (by omega : 0 ≤ y), (by omega : 0 ≤ z)⟩
      exact hK _ _ ⟨hG, GoodR.same _, (fun h => by cases h), ⟨x, f, l, y, z⟩, rfl, hp⟩
    | 24, ho =>
      cases ho
      intro ev w' hc hfn hb hG hd
      have h2 : ev (.tmp 2) = .pointer (some ⟨rv, 0, none⟩) := hb 2 (by simp)
      obtain ⟨p, h26, hp⟩ : ∃ p : Pers, ev (.tmp 26) = .agg #[.int .i64 p.num, .string p.fst, .string p.lst, .int .i64 p.born, .int .i64 p.zone] ∧ Small0 p := hd { on := 23, ground := .data } (by simp) rfl _ rfl
      obtain ⟨g1, g2, g3, f, hr⟩ := hG
      have c0 := hr.cell (show 0 < 5 by omega); have c1 := hr.cell (show 1 < 5 by omega); have c2 := hr.cell (show 2 < 5 by omega); have c3 := hr.cell (show 3 < 5 by omega); have c4 := hr.cell (show 4 < 5 by omega)
      have f0 := hr.frozen 0; have f1 := hr.frozen 1; have f2 := hr.frozen 2; have f3 := hr.frozen 3; have f4 := hr.frozen 4
      refine stepTo_gen fun K' hK => ?_
      simp [go_sem, stepTo, hc, hfn, h2, h26, c0, c1, c2, c3, c4, f0, f1, f2, f3, f4]
      have hr5 := ((((hr.set 0 (.int .i64 p.num)).set 1 (.string p.fst)).set 2 (.string p.lst)).set 3 (.int .i64 p.born)).set 4 (.int .i64 p.zone)
      have hT : Two b rv w' _ := (((((Two.refl b rv w').set (o := 0) (.int .i64 p.num)).set (o := 1) (.string p.fst)).set (o := 2) (.string p.lst)).set (o := 3) (.int .i64 p.born)).set (o := 4) (.int .i64 p.zone)
      have hBr : B ≤ rv := by have := g1.base; omega
      have hbr : b ≠ rv := fun e => hne e.symm
      have hBl := (((((Below.refl B w').setCell (p := ⟨rv, 0, none⟩) hBr (.int .i64 p.num)).setCell (p := ⟨rv, 1, none⟩) hBr (.string p.fst)).setCell (p := ⟨rv, 2, none⟩) hBr (.string p.lst)).setCell (p := ⟨rv, 3, none⟩) hBr (.int .i64 p.born)).setCell (p := ⟨rv, 4, none⟩) hBr (.int .i64 p.zone)
      have hA : AtB _ rv p := ⟨hr5.cell (show 0 < 5 by omega), hr5.cell (show 1 < 5 by omega), hr5.cell (show 2 < 5 by omega), hr5.cell (show 3 < 5 by omega), hr5.cell (show 4 < 5 by omega)⟩
      exact hK _ _ ⟨⟨g1.kept (by rw [Below.heap_setCell _ _ _ _ hbr, Below.heap_setCell _ _ _ _ hbr, Below.heap_setCell _ _ _ _ hbr, Below.heap_setCell _ _ _ _ hbr, Below.heap_setCell _ _ _ _ hbr]) hBl, g2.trans hT, Nat.lt_of_lt_of_le g3 hT.size, _, hr5⟩, ⟨hT, .inr ⟨p, hp, hA⟩⟩, fun _ => rfl, p, hp, hA⟩
    | n + 25, ho => simp at ho
  · intro a w' hb hs hdf hG hf
    obtain ⟨p, hp, hA⟩ : ∃ p : Pers, Small0 p ∧ AtB w' rv p := hf 24 _ rfl
    have h2 := hb 2 (by simp)
    obtain ⟨tmps, dfs⟩ := a
    simp only at hdf
    subst hdf
    have h2' : tmps.getD 2 undef = .pointer (some ⟨rv, 0, none⟩) := h2
    clear hf hb h2 hs
    have HX := Lib.hid (show Src B 96 w' b ∧ w.grownBy w' (some b) from ⟨hG.1, by
      have hT := hG.2.1
      have hr := HRV.out
      have h1 := HT1.out
      exact ⟨hT.os.trans h1.os, hT.tape.trans h1.tape, hT.output.trans h1.output, Nat.le_trans h1.size hT.size, fun k hk hkb => (hT.block k (Nat.lt_of_lt_of_le hk h1.size) (fun e => hkb (by rw [e])) (by omega)).trans (h1.block k hk hkb)⟩⟩)
    obtain ⟨c0, c1, c2, c3, c4⟩ := hA
    clear hG
    go_wp2_with fail
    (try simp only [Exit.inBlock, Exit.then])
    refine bodyPost_ret (v := .agg #[.int .i64 p.num, .string p.fst, .string p.lst, .int .i64 p.born, .int .i64 p.zone]) ?_ rfl ⟨p, rfl, hp, HX.out⟩
    rw [results_cell1 rfl]
    simp only [h2']
    go_simp

end Go.Proofs.Ytdeiillfdjebdaa
