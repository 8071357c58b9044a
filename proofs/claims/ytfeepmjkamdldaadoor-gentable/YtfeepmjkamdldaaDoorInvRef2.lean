/- Gauss and Jordan on two matrices of the call's own: what each step leaves. -/
import Derived.Test.YtfeepmjkamdldaaDoorInvRef1
import Derived.Laws.CopyOwn
namespace Go.Proofs.YtfeepmjkamdldaaDoor
open Go.RowKit
set_option linter.unusedVariables false
set_option linter.unusedSimpArgs false
theorem addr_add (b off j : Nat) : (⟨b, off, none⟩ : Addr).add j = ⟨b, off + j, none⟩ := by unfold Addr.add; split <;> simp_all
/-- copy, onto a row of the call's own -/
theorem step_copy_own {P : Program} {ops : Array Oper} {o : Oper} {a : Act} {w : World} {K : Act → World → Prop} {Q : Exit → Act → World → Prop} {X : Prop} (hgd : o.guard = none) (d s : Operand) (dT sT : TypeId)
    (ho : o.op = .call { callee := .builtin .copy, args := #[d, s], argTypes := #[dT, sT] }) (elem : TypeId) (hu : P.underlying dT = some (.slice elem)) (hsz : (P.info? elem).map (·.size) = some 1)
    (B E g k cap cap' b off : Nat) (xs ys : List Value) (hd : a.eval d = .slice (some ⟨g, 0, none⟩) k cap) (hs : a.eval s = .slice (some ⟨b, off, none⟩) k cap') (hx : OwnL w B E (.slice (some ⟨g, 0, none⟩) k cap) xs) (hy : ys.length = k)
    (hsrc : ∀ j v, ys[j]? = some v → w.cell? ⟨b, off + j, none⟩ = some v) (h1 : ∀ v ∈ ys, v.oneCell' = true)
    (h : ∀ w', OwnL w' B E (.slice (some ⟨g, 0, none⟩) k cap) ys → (∀ j, j ≠ g → j < w.heap.size → w'.heap[j]? = w.heap[j]?) → Below B w w' → K (a.put o.dst (goInt k)) w') :
    if Region.wanted o (yielded ops a.tmps) = true then Oper.wp P o a w K Q else X := by
  rw [if_pos (by simp [Region.wanted, hgd])]
  rcases hx.2 with ⟨e, _⟩ | ⟨g', cap1, cur, e, hb, hh, hn, hm, hc, ht⟩
  · simp at e
  · have hlen := own_len hx
    simp only [Value.slice.injEq, Option.some.injEq, Addr.mk.injEq, and_true, true_and] at e
    obtain ⟨rfl, e2, rfl⟩ := e
    rw [hlen] at hn
    have hrun := run_copy_row (P := P) w dT sT o.type elem g 0 k cap ⟨b, off, none⟩ k cap' cur E ys hu hsz hh (by rw [hy]; simp) (fun j v hv => by
      rw [addr_add]; exact hsrc j v hv) (by rw [hy]; omega) h1
    have hK := h (w.setRow g (cur.toList.take 0 ++ ys ++ cur.toList.drop (0 + ys.length)).toArray)
      ⟨by simp, .inr ⟨g, cap, (cur.toList.take 0 ++ ys ++ cur.toList.drop (0 + ys.length)).toArray, by rw [hy], hb, setRow_heap w g cur _ E (0, 0) hh, by rw [hy]; exact hn, hm, by simp [hy]; omega, by simp⟩⟩
      (fun j hj _ => setRow_other w g j _ hj) (below_setRow (Below.refl B w) hb _)
    unfold Oper.wp
    have hK' : K (a.put o.dst (goInt ys.length)) (w.setRow g (cur.toList.take 0 ++ ys ++ cur.toList.drop (0 + ys.length)).toArray) := by rw [hy] at *; exact hK
    simp [execOp, ho, resolve, invoke, builtin, hd, hs, hrun, Result.andThen, Oper.upon]
    simp at hK'
    first | exact hK' | exact .inl hK'
theorem matF_setRow {k : Nat} {f : Nat → Nat → Nat} {i : Nat} (hi : i < k) (g : Nat → Nat) : (matF k k f).set i (rowF k g) = matF k k (fun r c => if r = i then g c else f r c) := by
  apply List.ext_getElem
  · simp [matF]
  · intro r h1 h2
    simp [matF] at h1 h2 ⊢
    rw [List.getElem_set]
    by_cases h : i = r
    · subst h; simp [rowF]
    · simp [h, Ne.symm h]
/-- the two matrices, each of the call's own, and apart: all of the second lies below Ha, all of the first from Ha on -/
structure GJ (wr : World) (Bo Ha k ga ca go co : Nat) (usa uso : List Value) (fa fo : Nat → Nat → Nat) : Prop where
  a : RowsO wr Ha 38 3 (.slice (some ⟨ga, 0, none⟩) k ca) usa (matF k k fa)
  o : RowsO wr Bo 38 3 (.slice (some ⟨go, 0, none⟩) k co) uso (matF k k fo)
  ol : go < Ha
  or : ∀ (j : Nat) v g, uso[j]? = some v → v.ownBlock = some g → g < Ha
  hs : Ha ≤ wr.heap.size
/-- the row i of a matrix of the call's own -/
theorem rowAt {wr : World} {B g k c : Nat} {us : List Value} {f : Nat → Nat → Nat} (h : RowsO wr B 38 3 (.slice (some ⟨g, 0, none⟩) k c) us (matF k k f)) {i : Nat} (hi : i < k) :
    ∃ gi ci, us[i]? = some (.slice (some ⟨gi, 0, none⟩) k ci) ∧ B ≤ gi ∧ wr.cell? ⟨g, i, none⟩ = some (.slice (some ⟨gi, 0, none⟩) k ci) ∧ OwnL wr B 3 (.slice (some ⟨gi, 0, none⟩) k ci) ((rowF k (f i)).map (Value.int .i64)) ∧ (∀ c, c < k → wr.cell? ⟨gi, c, none⟩ = some (.int .i64 ((f i c : Nat) : Int))) := by
  have hr : ((matF k k f).getD i []).length = k := matF_rowlen _ _ _ _ hi
  obtain ⟨gi, ci, h1, h2, h3, _⟩ := h.at (i := i) (by rw [matF_len]; exact hi) (by rw [hr]; omega)
  rw [hr] at h1 h3
  obtain ⟨g', c', e, _, hc⟩ := h.form (by rw [matF_len]; omega)
  simp only [Value.slice.injEq, Option.some.injEq, Addr.mk.injEq, and_true, true_and] at e
  obtain ⟨rfl, _, _⟩ := e
  have hrow := h.row i _ h1
  rw [matF_rowF k f i hi] at hrow
  refine ⟨gi, ci, h1, h2, hc i _ h1, hrow, fun c hck => ?_⟩
  rw [h3 c hck, matF_rowF k f i hi, rowF_at hck]
theorem GJ.setA {wr w' : World} {Bo Ha k ga ca go co : Nat} {usa uso : List Value} {fa fo : Nat → Nat → Nat} (h : GJ wr Bo Ha k ga ca go co usa uso fa fo) {i gi ci : Nat} {g : Nat → Nat} (hi : i < k) (hv : usa[i]? = some (.slice (some ⟨gi, 0, none⟩) k ci)) (hy : OwnL w' Ha 3 (.slice (some ⟨gi, 0, none⟩) k ci) ((rowF k g).map (Value.int .i64))) (hf : ∀ j, j ≠ gi → j < wr.heap.size → w'.heap[j]? = wr.heap[j]?) (hsz : wr.heap.size ≤ w'.heap.size) :
    GJ w' Bo Ha k ga ca go co usa uso (fun r c => if r = i then g c else fa r c) fo := by
  have hgi := ((h.a.row i _ hv).lt (g := gi) rfl).1
  refine ⟨?_, ?_, h.ol, h.or, Nat.le_trans h.hs hsz⟩
  · have := h.a.setRow (by decide) hv hy (fun k hk hks => hf k (fun e => hk (by rw [e]; rfl)) hks)
    rwa [matF_setRow hi] at this
  · refine ⟨h.o.len, h.o.outer.keep (fun q hq => ?_), fun j v hv' => (h.o.row j v hv').keep (fun q hq => ?_), h.o.apart⟩
    · simp [Value.ownBlock] at hq
      subst hq
      exact hf _ (by have := h.ol; omega) (by have := h.ol; have := h.hs; omega)
    · exact hf _ (by have := h.or j v q hv' hq; omega) (by have := h.or j v q hv' hq; have := h.hs; omega)
theorem GJ.setO {wr w' : World} {Bo Ha k ga ca go co : Nat} {usa uso : List Value} {fa fo : Nat → Nat → Nat} (h : GJ wr Bo Ha k ga ca go co usa uso fa fo) {i gi ci : Nat} {g : Nat → Nat} (hi : i < k) (hv : uso[i]? = some (.slice (some ⟨gi, 0, none⟩) k ci)) (hy : OwnL w' Bo 3 (.slice (some ⟨gi, 0, none⟩) k ci) ((rowF k g).map (Value.int .i64))) (hf : ∀ j, j ≠ gi → j < wr.heap.size → w'.heap[j]? = wr.heap[j]?) (hsz : wr.heap.size ≤ w'.heap.size) :
    GJ w' Bo Ha k ga ca go co usa uso fa (fun r c => if r = i then g c else fo r c) := by
  have hgi := h.or i _ gi hv rfl
  refine ⟨h.a.keep (fun q hq hqs => hf q (by omega) hqs), ?_, h.ol, h.or, Nat.le_trans h.hs hsz⟩
  have := h.o.setRow (by decide) hv hy (fun k hk hks => hf k (fun e => hk (by rw [e]; rfl)) hks)
  rwa [matF_setRow hi] at this
theorem GJ.swapA {wr w' : World} {Bo Ha k ga ca go co : Nat} {usa uso : List Value} {fa fo : Nat → Nat → Nat} (h : GJ wr Bo Ha k ga ca go co usa uso fa fo) {i j : Nat} (hi : i < k) (hj : j < k) (hr : RowsO w' Ha 38 3 (.slice (some ⟨ga, 0, none⟩) k ca) (swapL usa i j undef) (swapL (matF k k fa) i j [])) (hf : ∀ j, j ≠ ga → j < wr.heap.size → w'.heap[j]? = wr.heap[j]?) (hsz : wr.heap.size ≤ w'.heap.size) :
    GJ w' Bo Ha k ga ca go co (swapL usa i j undef) uso (fun r c => fa (sw i j r) c) fo := by
  have hga := (h.a.outer.lt (g := ga) rfl).1
  rw [matF_swap hi hj] at hr
  refine ⟨hr, ⟨h.o.len, h.o.outer.keep (fun q hq => ?_), fun j v hv' => (h.o.row j v hv').keep (fun q hq => ?_), h.o.apart⟩, h.ol, h.or, Nat.le_trans h.hs hsz⟩
  · simp [Value.ownBlock] at hq
    subst hq
    exact hf _ (by have := h.ol; omega) (by have := h.ol; have := h.hs; omega)
  · exact hf _ (by have := h.or j v q hv' hq; omega) (by have := h.or j v q hv' hq; have := h.hs; omega)
theorem GJ.swapO {wr w' : World} {Bo Ha k ga ca go co : Nat} {usa uso : List Value} {fa fo : Nat → Nat → Nat} (h : GJ wr Bo Ha k ga ca go co usa uso fa fo) {i j : Nat} (hi : i < k) (hj : j < k) (hr : RowsO w' Bo 38 3 (.slice (some ⟨go, 0, none⟩) k co) (swapL uso i j undef) (swapL (matF k k fo) i j [])) (hf : ∀ j, j ≠ go → j < wr.heap.size → w'.heap[j]? = wr.heap[j]?) (hsz : wr.heap.size ≤ w'.heap.size) :
    GJ w' Bo Ha k ga ca go co usa (swapL uso i j undef) fa (fun r c => fo (sw i j r) c) := by
  have hgo := h.ol
  have hlo : uso.length = k := by rw [h.o.len, matF_len]
  rw [matF_swap hi hj] at hr
  refine ⟨h.a.keep (fun q hq hqs => hf q (by omega) hqs), hr, h.ol, fun r v g hv hg => ?_, Nat.le_trans h.hs hsz⟩
  rw [swapL_at uso i j undef (by omega) (by omega)] at hv
  exact h.or _ v g hv hg
end Go.Proofs.YtfeepmjkamdldaaDoor
