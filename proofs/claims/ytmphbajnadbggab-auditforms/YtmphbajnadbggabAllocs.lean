/- A row of blocks that were laid one behind the other. -/
import Derived.Test.YtmphbajnadbggabKCore
namespace Go.Proofs.Ytmphbajnadbggab
open Go.RowKit
set_option linter.unusedVariables false
def allocs (w : World) : List Obj → World
  | [] => w
  | o :: r => allocs (w.alloc o) r
theorem allocs_size (w : World) (os : List Obj) : (allocs w os).heap.size = w.heap.size + os.length := by
  induction os generalizing w with
  | nil => rfl
  | cons o r ih =>
    show (allocs (w.alloc o) r).heap.size = _
    rw [ih]
    simp; omega
theorem allocs_below (w : World) (os : List Obj) : Below w.heap.size w (allocs w os) := by
  induction os generalizing w with
  | nil => exact Below.refl _ _
  | cons o r ih => exact bt (below_alloc w o) (ih _)
theorem allocs_heap (w : World) (os : List Obj) (j : Nat) (o : Obj) (h : os[j]? = some o) : (allocs w os).heap[w.heap.size + j]? = some o := by
  induction os generalizing w j with
  | nil => simp at h
  | cons x r ih =>
    cases j with
    | zero =>
      simp only [List.getElem?_cons_zero, Option.some.injEq] at h
      subst h
      exact ((allocs_below (w.alloc x) r).block _ (by simp)).trans (heap_alloc_new w x)
    | succ j =>
      have := ih (w.alloc x) j (by simpa using h)
      have e : (w.alloc x).heap.size + j = w.heap.size + (j + 1) := by simp; omega
      rw [e] at this
      exact this
end Go.Proofs.Ytmphbajnadbggab
