/- A row of structs appended to one of the call's own. -/
import Derived.Test.YtpmbmhjhclekeaaRecMem
namespace Go.Proofs.Ytpmbmhjhclekeaa
open Go.RowKit
set_option linter.unusedVariables false
set_option linter.unusedSimpArgs false
theorem wpList_append_rec {P : Program} (w : World) {ops : Array Oper} {rest : List Oper} {o : Oper} {a : Act} {Q : Exit → Act → World → Prop} (hgd : o.guard = none) (s x : Operand) (t : TypeId)
    (ho : o.op = .call { callee := .builtin .append, args := #[s, x], argTypes := #[t, t] })
    (base : Nat) (e : TypeId) (z : Value) (k bytes : Nat) (ht : P.underlying t = some (.slice e)) (hinfo : (P.info? e).map (fun i => (i.zero, i.size, i.bytes)) = some (some z, k, bytes)) (hzs : z.cells.size = k) (hk : 0 < k)
    (v : Value) (n : Nat) (xs : List Value) (hs : a.eval s = v) (hown : w.ownsRow base e k v n xs)
    (ad : Option Addr) (m c : Nat) (f : Nat → Value) (news : List Value) (hx : a.eval x = .slice ad m c) (hrow : RecV w ad m c k f) (hl : news.length = m * k) (hf : ∀ i, i < m * k → news[i]? = some (f i)) (h1 : ∀ u ∈ news, u.oneCell' = true)
    (h63 : n + m ≤ maxLen) (hbytes : (n + m) * bytes ≤ 140737488355328) (hbase : base ≤ w.heap.size)
    (h : ∀ v' w', w'.ownsRow base e k v' (n + m) (xs ++ news) → w.grownBy w' v.ownBlock → wpList P ops Q rest (a.put o.dst v') w') : wpList P ops Q (o :: rest) a w := by
  obtain ⟨i0, hi, hz0, hz1, hz2⟩ := info_parts hinfo
  rcases hrow with ⟨rfl, rfl, rfl⟩ | ⟨rfl, ad', rfl⟩ | ⟨hp, _, b, off, rfl, hc⟩
  · have e0 : news = [] := List.length_eq_zero_iff.1 (by simpa using hl)
    subst e0
    refine wpList_append_own_none hgd s x t ho base e i0 k ht hi v n xs hs hown hx ?_
    exact h v w (by simpa using hown) (World.grownBy.refl _ _)
  · have e0 : news = [] := List.length_eq_zero_iff.1 (by simpa using hl)
    subst e0
    exact wpList_append_own w hgd s x t ho base e i0 z k bytes ht hi hz0 hz1 hz2 hzs hk v n xs hs hown ad' 0 c [] hx (by simp) (by simp) (by simp) h63 hbytes hbase (fun v' w' h2 h3 _ => h v' w' h2 h3)
  · refine wpList_append_own w hgd s x t ho base e i0 z k bytes ht hi hz0 hz1 hz2 hzs hk v n xs hs hown ⟨b, off, none⟩ m c news hx hl ?_ h1 h63 hbytes hbase (fun v' w' h2 h3 _ => h v' w' h2 h3)
    intro j u hj
    by_cases hlt : j < m * k
    · rw [hf j hlt] at hj
      rw [add_row, hc j hlt]; exact hj
    · rw [List.getElem?_eq_none (by omega)] at hj; simp at hj
theorem own_emptyZ (w : World) (e : TypeId) (z B : Nat) (h : B ≤ w.heap.size) : (w.alloc (.cells #[] e)).ownsRow B e z (.slice (some ⟨w.heap.size, 0, none⟩) 0 0) 0 [] := World.ownsRow_made w #[] 0 h (by decide) (by simp)
end Go.Proofs.Ytpmbmhjhclekeaa
