/- An append in a region that draws its order (for any type). -/
import Derived.Test.YtekhdggaelppkaaFacts2
namespace Go.Proofs.Ytekhdggaelppkaa
theorem step_app {P : Program} {ev : Operand → Value} {o : Oper} {w w' : World} {K : Value → World → Prop} {v : Value} {s x : Operand} {t : TypeId} (ho : o.op = .call { callee := .builtin .append, args := #[s, x], argTypes := #[t, t] })
    (hr : (Builtin.append_ #[t, t] o.type #[ev s, ev x]).run P w = .ok v w') (h : K v w') : stepTo P ((execOp ev o).run P w) K := by
  unfold execOp
  simp only [ho, resolve, invoke, builtin, Sem.run_bind, Sem.run_pure, Result.andThen_ok, List.map_toArray, List.map_cons, List.map_nil, hr, stepTo]
  exact h
end Go.Proofs.Ytekhdggaelppkaa
