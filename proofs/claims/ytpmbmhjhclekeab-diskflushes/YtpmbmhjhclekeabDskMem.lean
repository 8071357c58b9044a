/- Disks: sectors and writes; such as can be read, and such of the call's own. -/
import Derived.Test.YtpmbmhjhclekeabRecMem
import Derived.Test.YtpmbmhjhclekeabKEnc
namespace Go.Proofs.Ytpmbmhjhclekeab
open Go.RowKit
set_option linter.unusedVariables false
set_option linter.unusedSimpArgs false
structure Dsk where
  lost : Bool
  secs : List ByteArray
  cache : List (Int × ByteArray)
def dsk0 : Dsk := ⟨false, [], []⟩
def wr0 : Int × ByteArray := (0, ByteArray.empty)
def wrCells (l : List (Int × ByteArray)) : List Value := l.flatMap fun p => [.int .i64 p.1, .string p.2]
theorem wrCells_len (l : List (Int × ByteArray)) : (wrCells l).length = l.length * 2 := by
  unfold wrCells
  induction l with
  | nil => rfl
  | cons x l ih => rw [List.flatMap_cons, List.length_append, ih, List.length_cons]; simp; omega
theorem wrCells_append (l m : List (Int × ByteArray)) : wrCells (l ++ m) = wrCells l ++ wrCells m := by unfold wrCells; rw [List.flatMap_append]
theorem wrCells_cons (x : Int × ByteArray) (l : List (Int × ByteArray)) : wrCells (x :: l) = [.int .i64 x.1, .string x.2] ++ wrCells l := rfl
theorem wrCells_at : ∀ (l : List (Int × ByteArray)) (i : Nat), i < l.length → (wrCells l)[i * 2]? = some (.int .i64 (l.getD i wr0).1) ∧ (wrCells l)[i * 2 + 1]? = some (.string (l.getD i wr0).2)
  | x :: l, 0, _ => ⟨rfl, rfl⟩
  | x :: l, i + 1, h => by
    have ih := wrCells_at l i (by simpa using h)
    rw [wrCells_cons, List.getElem?_append_right (by simp; omega), List.getElem?_append_right (by simp; omega)]
    have e1 : (i + 1) * 2 - [Value.int IntKind.i64 x.1, Value.string x.2].length = i * 2 := by simp; omega
    have e2 : (i + 1) * 2 + 1 - [Value.int IntKind.i64 x.1, Value.string x.2].length = i * 2 + 1 := by simp; omega
    rw [e1, e2]
    simpa using ih
/-- writes that can be read -/
def WrV (w : World) (a : Option Addr) (n cap : Nat) (l : List (Int × ByteArray)) : Prop := l.length = n ∧ RecV w a n cap 2 (fun i => (wrCells l).getD i undef)
theorem WrV.below {w w' : World} {a : Option Addr} {n cap : Nat} {l : List (Int × ByteArray)} (h : WrV w a n cap l) (hb : Below w.heap.size w w') : WrV w' a n cap l := ⟨h.1, h.2.below hb⟩
theorem WrV.nil (w : World) : WrV w none 0 0 [] := ⟨rfl, .inl ⟨rfl, rfl, rfl⟩⟩
theorem WrV.at {w : World} {a : Option Addr} {n cap : Nat} {l : List (Int × ByteArray)} (h : WrV w a n cap l) {j : Nat} (hj : j < n) : ∃ b o, a = some ⟨b, o, none⟩ ∧ n ≤ cap ∧ ∀ j, j < n → w.cell? ⟨b, o + j * 2, none⟩ = some (.int .i64 (l.getD j wr0).1) ∧ w.cell? ⟨b, o + j * 2 + 1, none⟩ = some (.string (l.getD j wr0).2) := by
  rcases h.2.two with h0 | ⟨hc, b, o, ea, hcell⟩
  · omega
  · refine ⟨b, o, ea, hc, fun j hj => ?_⟩
    obtain ⟨t1, t2⟩ := wrCells_at l j (by rw [h.1]; exact hj)
    refine ⟨?_, ?_⟩
    · rw [hcell (j * 2) (by omega)]; simp [List.getD, t1]
    · rw [Nat.add_assoc, hcell (j * 2 + 1) (by omega)]; simp [List.getD, t2]
theorem own_wr {w : World} {B : Nat} {E : TypeId} {v : Value} {l : List (Int × ByteArray)} (h : w.ownsRow B E 2 v l.length (wrCells l)) : ∃ a cap, v = .slice a l.length cap ∧ WrV w a l.length cap l := by
  obtain ⟨a, cap, e, hr⟩ := ownZ_rec (f := fun i => (wrCells l).getD i undef) h (fun i hi => by simp [List.getD, List.getElem?_eq_getElem (show i < (wrCells l).length by rw [wrCells_len]; exact hi)])
  exact ⟨a, cap, e, rfl, hr⟩
/-- a disk of the call's own -/
def DskO (w : World) (B : Nat) (S E : TypeId) (v : Value) (d : Dsk) : Prop := ∃ va vc, v = .agg #[.bool d.lost, va, vc] ∧ OwnL w B S va (d.secs.map Value.string) ∧ w.ownsRow B E 2 vc d.cache.length (wrCells d.cache)
theorem DskO.zero (w : World) (B : Nat) (S E : TypeId) : DskO w B S E (.agg #[.bool false, .slice none 0 0, .slice none 0 0]) dsk0 := ⟨_, _, rfl, OwnL.nil _ _ _, World.ownsRow_nil w B E 2⟩
theorem DskO.below {w w' : World} {B : Nat} {S E : TypeId} {v : Value} {d : Dsk} (h : DskO w B S E v d) (hb : Below w.heap.size w w') : DskO w' B S E v d := by
  obtain ⟨va, vc, e, h1, h2⟩ := h
  exact ⟨va, vc, e, h1.below hb, ownZ_below h2 hb⟩
theorem ownZ_mono' {w : World} {B B' : Nat} {e : TypeId} {z n : Nat} {v : Value} {xs : List Value} (h : w.ownsRow B e z v n xs) (hB : B' ≤ B) : w.ownsRow B' e z v n xs := by
  refine ⟨h.1, ?_⟩
  rcases h.2 with h | ⟨g, cap, cur, e, hb, r⟩
  · exact .inl h
  · exact .inr ⟨g, cap, cur, e, Nat.le_trans hB hb, r⟩
theorem DskO.mono {w : World} {B B' : Nat} {S E : TypeId} {v : Value} {d : Dsk} (h : DskO w B S E v d) (hB : B' ≤ B) : DskO w B' S E v d := by
  obtain ⟨va, vc, e, h1, h2⟩ := h
  exact ⟨va, vc, e, h1.mono hB, ownZ_mono' h2 hB⟩
/-- as one that can be read -/
theorem DskO.read {w : World} {B : Nat} {S E : TypeId} {v : Value} {d : Dsk} (h : DskO w B S E v d) : ∃ sa sc ca cc, v = .agg #[.bool d.lost, .slice sa d.secs.length sc, .slice ca d.cache.length cc] ∧ Strs w sa d.secs.length sc d.secs ∧ WrV w ca d.cache.length cc d.cache := by
  obtain ⟨va, vc, e, h1, h2⟩ := h
  obtain ⟨sa, sc, rfl, hs⟩ := h1.strs
  obtain ⟨ca, cc, rfl, hc⟩ := own_wr h2
  exact ⟨sa, sc, ca, cc, e, hs, hc⟩
theorem box_dsk {w : World} {b : Nat} {x y z : Value} {T : TypeId} (h : w.heap[b]? = some (.cells #[x, y, z] T (0, 0))) : w.cell? ⟨b, 0, none⟩ = some x ∧ w.cell? ⟨b, 1, none⟩ = some y ∧ w.cell? ⟨b, 2, none⟩ = some z :=
  ⟨by rw [cell_of_row _ _ 0 _ _ _ h]; rfl, by rw [cell_of_row _ _ 1 _ _ _ h]; rfl, by rw [cell_of_row _ _ 2 _ _ _ h]; rfl⟩
/-- what a disk may be -/
def MayD (d : Dsk) : Prop := if d.lost = true then d.secs.length = 0 ∧ d.cache.length = 0 else 1 ≤ d.secs.length ∧ d.secs.length ≤ 72 ∧ d.cache.length ≤ 256 ∧ (∀ i, i < d.secs.length → (d.secs.getD i ByteArray.empty).size = 64) ∧
  ∀ i, i < d.cache.length → 0 ≤ (d.cache.getD i wr0).1 ∧ (d.cache.getD i wr0).1 < d.secs.length ∧ (d.cache.getD i wr0).2.size = 64
instance mayD_dec (d : Dsk) : Decidable (MayD d) := by unfold MayD; exact inferInstance
def stateD (d : Dsk) : Int := if MayD d then (if d.lost = true then 1301 else 0) else 1300
/-- what sector at reads as: of the first k writes -/
def peekTo (d : Dsk) (at_ : Int) : Nat → ByteArray
  | 0 => d.secs.getD at_.toNat ByteArray.empty
  | k + 1 => if (d.cache.getD k wr0).1 = at_ then (d.cache.getD k wr0).2 else peekTo d at_ k
def peekD (d : Dsk) (at_ : Int) : ByteArray := peekTo d at_ d.cache.length
def readD (d : Dsk) (at_ : Int) : ByteArray × Int := if stateD d = 0 then (if 0 ≤ at_ ∧ at_ < d.secs.length then (peekD d at_, 0) else (ByteArray.empty, 1300)) else (ByteArray.empty, stateD d)
def writeD (d : Dsk) (at_ : Int) (s : ByteArray) : Dsk × Int :=
  if stateD d = 0 then (if 0 ≤ at_ ∧ at_ < d.secs.length ∧ s.size = 64 ∧ d.cache.length < 256 then (⟨d.lost, d.secs, d.cache ++ [(at_, s)]⟩, 0) else (dsk0, 1300)) else (dsk0, stateD d)
/-- the sectors, behind the first k writes of those that keep tells -/
def keepTo (d : Dsk) (keep : Int) : Nat → List ByteArray
  | 0 => d.secs
  | k + 1 => if (keep / 2 ^ (k % 16)) % 2 = 1 then (keepTo d keep k).set (d.cache.getD k wr0).1.toNat (d.cache.getD k wr0).2 else keepTo d keep k
def lastsD (d : Dsk) (keep : Int) : Dsk := ⟨d.lost, keepTo d keep d.cache.length, []⟩
def crashD (d : Dsk) (keep : Int) : Dsk × Int := if stateD d = 0 then (lastsD d keep, 0) else (dsk0, stateD d)
def flushD (d : Dsk) : Dsk × Int := crashD d (-1)
def loseD (d : Dsk) : Dsk × Int := if MayD d then (⟨true, [], []⟩, 0) else (dsk0, 1300)
theorem keepTo_len (d : Dsk) (keep : Int) : ∀ k, (keepTo d keep k).length = d.secs.length
  | 0 => rfl
  | k + 1 => by unfold keepTo; split <;> simp [keepTo_len d keep k]
end Go.Proofs.Ytpmbmhjhclekeab
