/- Rebuild: what the document asks, as a relation. -/
import Derived.Test.YtcgagkaalbljmaaDoorDecRef2
import Derived.Test.YtcgagkaalbljmaaDoorKEnc
namespace Go.Proofs.YtcgagkaalbljmaaDoor
open Go.RowKit
set_option linter.unusedVariables false
set_option linter.unusedSimpArgs false
/-- what Rebuild answers: all shards, the error's number -/
def rebR (d p : Int) (ss : List ByteArray) (bs : List Bool) (o : List ByteArray × Int) : Prop :=
  ∃ r, decR d p ss bs r ∧ ((r.2 = 700 ∧ o = ([], 800)) ∨ (r.2 ≠ 700 ∧ r.2 ≠ 0 ∧ o = ([], 801)) ∨ (r.2 = 0 ∧ o = (r.1 ++ (encF d p r.1).1, 0)))
theorem rebR_one {d p : Int} {ss : List ByteArray} {bs : List Bool} {o o' : List ByteArray × Int} (h : rebR d p ss bs o) (h' : rebR d p ss bs o') : o = o' := by
  obtain ⟨r, hr, h⟩ := h
  obtain ⟨r', hr', h'⟩ := h'
  obtain rfl := decR_one hr hr'
  rcases h with ⟨h1, rfl⟩ | ⟨h1, h2, rfl⟩ | ⟨h1, rfl⟩
  · rcases h' with ⟨g1, rfl⟩ | ⟨g1, g2, rfl⟩ | ⟨g1, rfl⟩
    · rfl
    · exact absurd h1 g1
    · rw [h1] at g1; exact absurd g1 (by decide)
  · rcases h' with ⟨g1, rfl⟩ | ⟨g1, g2, rfl⟩ | ⟨g1, rfl⟩
    · exact absurd g1 h1
    · rfl
    · exact absurd g1 h2
  · rcases h' with ⟨g1, rfl⟩ | ⟨g1, g2, rfl⟩ | ⟨g1, rfl⟩
    · rw [h1] at g1; exact absurd g1 (by decide)
    · exact absurd h1 g2
    · rfl
/-- what Rebuild leaves -/
def rebPost (d p : Int) (ss : List ByteArray) (bs : List Bool) (w : World) (e : Ending) (w' : World) : Prop := ∃ v r, rebR d p ss bs r ∧ e = .returned (.tuple #[v, .int .i64 r.2]) ∧ OwnL w' w.heap.size 9 v (r.1.map Value.string) ∧ Below w.heap.size w w'
theorem dec_len {d p : Int} {ss : List ByteArray} {bs : List Bool} {r : List ByteArray × Int} (h : decR d p ss bs r) : r.1.length ≤ 4 := by
  rcases h with ⟨_, rfl⟩ | ⟨_, _, rfl⟩ | ⟨⟨hs, _⟩, _, N, _, rfl⟩
  · simp
  · simp
  · have := hs.2.1
    show (backTo _ _ _).length ≤ 4
    rw [backTo_len]; omega
theorem enc_len (d p : Int) (ss : List ByteArray) : (encF d p ss).1.length ≤ 2 := by
  unfold encF
  split
  · rename_i h
    have := h.1.2.2.2
    show (encTo _ _ _ _).length ≤ 2
    rw [encTo_len]; omega
  · simp
theorem dec_code {d p : Int} {ss : List ByteArray} {bs : List Bool} {r : List ByteArray × Int} (h : decR d p ss bs r) : r.2 = 700 ∨ r.2 = 701 ∨ r.2 = 0 := by
  rcases h with ⟨_, rfl⟩ | ⟨_, _, rfl⟩ | ⟨_, _, N, _, rfl⟩
  · exact .inl rfl
  · exact .inr (.inl rfl)
  · exact .inr (.inr rfl)
end Go.Proofs.YtcgagkaalbljmaaDoor
