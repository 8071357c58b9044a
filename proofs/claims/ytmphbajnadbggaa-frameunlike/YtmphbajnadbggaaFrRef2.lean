/- Frames by the document (ossuaryref13): PutFrame. -/
import Derived.Test.YtmphbajnadbggaaFrRef
import Derived.Test.YtmphbajnadbggaaTreeRef2
namespace Go.Proofs.Ytmphbajnadbggaa
open Go.RowKit
set_option linter.unusedVariables false
set_option linter.unusedSimpArgs false
attribute [local go_sem ↓] Go.wp_at_zero Go.wp_at_succ
/-- what a frame may be made of -/
def FrMay (slot shard : Int) (s : ByteArray) (p : List Int) : Prop := (0 ≤ slot ∧ slot < 24) ∧ (0 ≤ shard ∧ shard < 6) ∧ s.size = 32 ∧ Sls p ∧ p.length ≤ 3
instance frMay_dec (slot shard : Int) (s : ByteArray) (p : List Int) : Decidable (FrMay slot shard s p) := by unfold FrMay; exact inferInstance
def frHead (slot shard : Int) (s : ByteArray) (p : List Int) : ByteArray := ((⟨#[79]⟩ ++ bytesB slot 1) ++ bytesB shard 1) ++ bytesB (p.length : Int) 1 ++ s
def frPath (t : ByteArray) (p : List Int) : Nat → ByteArray
  | 0 => t
  | k + 1 => frPath t p k ++ bytesB (p.getD k 0) 4
def frBody (slot shard : Int) (s : ByteArray) (p : List Int) : ByteArray := frPath (frHead slot shard s p) p 3
def frSeal (t : ByteArray) : ByteArray := t ++ bytesB (Seal.of (byts t) : Nat) 4
def frB (slot shard : Int) (s : ByteArray) (p : List Int) : ByteArray := frSeal (frBody slot shard s p) ++ zerosB 12
def putF (slot shard : Int) (s : ByteArray) (p : List Int) : ByteArray × Int := if FrMay slot shard s p then (frB slot shard s p, 0) else (ByteArray.empty, 1400)
theorem frHead_size (slot shard : Int) (s : ByteArray) (p : List Int) (h : s.size = 32) : (frHead slot shard s p).size = 36 := by
  unfold frHead
  simp only [ByteArray.size_append, bytesB_size, h]
  rfl
theorem frPath_size (t : ByteArray) (p : List Int) : ∀ k, (frPath t p k).size = t.size + 4 * k
  | 0 => rfl
  | k + 1 => by rw [frPath, ByteArray.size_append, bytesB_size, frPath_size t p k]; omega
theorem frBody_size (slot shard : Int) (s : ByteArray) (p : List Int) (h : s.size = 32) : (frBody slot shard s p).size = 48 := by
  rw [frBody, frPath_size, frHead_size _ _ _ _ h]
theorem frSeal_size (t : ByteArray) : (frSeal t).size = t.size + 4 := by rw [frSeal, ByteArray.size_append, bytesB_size]
theorem frB_size (slot shard : Int) (s : ByteArray) (p : List Int) (h : s.size = 32) : (frB slot shard s p).size = 64 := by
  rw [frB, ByteArray.size_append, zerosB_size, frSeal_size, frBody_size _ _ _ _ h]
set_option maxRecDepth 100000 in
set_option maxHeartbeats 1000000 in
theorem refPutFrame_yes (slot shard : Int) (s : ByteArray) (a : Option Addr) (n cap : Nat) (p : List Int) (w : World) (hp : Ints w a n cap p) (h : FrMay slot shard s p) :
    Calls Try.prog 11 #[.int .i64 slot, .int .i64 shard, .string s, .slice a n cap] w fun e w' => e = .returned (.tuple #[.string (frB slot shard s p), .int .i64 0]) ∧ Below w.heap.size w w' := by
  obtain ⟨⟨h1, h2⟩, ⟨h3, h4⟩, h5, h6, h7⟩ := h
  obtain rfl : p.length = n := hp.1
  have HP := hide hp
  have dS : decide (Sls p ∧ p.length ≤ 3) = true := decide_eq_true ⟨h6, h7⟩
  have hl : (p.length : Int) ≤ 3 := by omega
  clear hp h6
  go_enter Try.func11, Try.ntmps11
  go_wp2_with (go_at_call 40; refine (refSealNums_any _ _ _ p 3 _ (unhide HP) (by omega) (by decide)).mono ?_; rintro e w' ⟨rfl, hw'⟩; rw [dS, hw']; clear hw' w')
  refine (bytes_any slot 1 (by decide) _).mono ?_
  rintro e w1 ⟨rfl, b1⟩
  go_wp2_with fail
  refine (bytes_any shard 1 (by decide) _).mono ?_
  rintro e w2 ⟨rfl, b2⟩
  have HB := hide (bt b1 b2)
  clear b1 b2
  have z1 := bytesB_size slot 1
  have z2 := bytesB_size shard 1
  have z3 := bytesB_size (p.length : Int) 1
  go_wp2_with fail
  refine (bytes_any (p.length : Int) 1 (by decide) _).mono ?_
  rintro e w3 ⟨rfl, b3⟩
  replace HB := hide (bt (unhide HB) b3)
  replace HP := hide ((unhide HP).below (unhide HB))
  clear b3
  go_upto_region 4 with fail
  rw [show ((⟨#[79]⟩ ++ bytesB slot 1) ++ bytesB shard 1) ++ bytesB (p.length : Int) 1 ++ s = frHead slot shard s p from rfl]
  have ht0 := frHead_size slot shard s p h5
  obtain ⟨t0, et0⟩ : ∃ t0, t0 = frHead slot shard s p := ⟨_, rfl⟩
  rw [← et0] at ht0 ⊢
  have ET := hide et0
  clear et0 z1 z2 z3 dS h1 h2 h3 h4
  go_wp2
  go_loopw [10, 11] (fun tv iv wr => ∃ k : Nat, k ≤ 3 ∧ iv = .int .i64 k ∧ tv = .string (frPath t0 p k) ∧ Hid (Below w.heap.size w wr) ∧ Hid (Ints wr a p.length cap p)) (fun _ iv _ => 3 - (intOf iv).toNat)
  case atStart => exact ⟨0, by decide, rfl, rfl, HB, HP⟩
  case round =>
    clear HB HP
    obtain ⟨k, hk, rfl, rfl, HB, HP⟩ := hrel
    have hsz := frPath_size t0 p k
    rw [ht0] at hsz
    by_cases hk3 : k < 3
    · have hk3' : (k : Int) < 3 := by omega
      obtain ⟨t, et⟩ : ∃ t, t = frPath t0 p k := ⟨_, rfl⟩
      rw [← et] at hsz ⊢
      have ET2 := hide et
      clear et
      obtain ⟨x, ex⟩ : ∃ x, x = p.getD k 0 := ⟨_, rfl⟩
      have z4 := bytesB_size x 4
      by_cases hkp : k < p.length
      · have hkp' : (k : Int) < p.length := by omega
        rcases (unhide HP).2.two with h0 | ⟨b, off, rfl, hc⟩
        · exfalso; omega
        have hcell := hc k hkp
        rw [← ex] at hcell
        have EX := hide ex
        clear ex hc
        go_wp2_with fail
        refine (bytes_any x 4 (by decide) _).mono ?_
        rintro e w4 ⟨rfl, b4⟩
        replace HB := hide (bt (unhide HB) b4)
        replace HP := hide ((unhide HP).below b4)
        clear b4 hcell
        go_wp2
        go_roundw
        case rel => exact ⟨k + 1, by omega, by go_num, by rw [frPath, ← unhide ET2, ← unhide EX], HB, HP⟩
        case measure => simp [intOf]; omega
      · have hkp' : ¬ (k : Int) < p.length := by omega
        have ex0 : x = 0 := by rw [ex]; simp [List.getD, Nat.le_of_not_lt hkp]
        have EX := hide ex
        subst ex0
        clear ex
        go_wp2_with fail
        refine (bytes_any 0 4 (by decide) _).mono ?_
        rintro e w4 ⟨rfl, b4⟩
        replace HB := hide (bt (unhide HB) b4)
        replace HP := hide ((unhide HP).below b4)
        clear b4
        go_wp2
        go_roundw
        case rel => exact ⟨k + 1, by omega, by go_num, by rw [frPath, ← unhide ET2, ← unhide EX], HB, HP⟩
        case measure => simp [intOf]; omega
    · obtain rfl : k = 3 := by omega
      clear hk3 hk
      obtain ⟨t, et⟩ : ∃ t, t = frPath t0 p 3 := ⟨_, rfl⟩
      rw [← et] at hsz ⊢
      have eB : t = frBody slot shard s p := by rw [et, unhide ET]; rfl
      have EB := hide eB
      clear et eB
      obtain ⟨y, ey⟩ : ∃ y, y = Seal.of (byts t) := ⟨_, rfl⟩
      have z5 := bytesB_size (y : Int) 4
      go_wp2_with fail
      refine (refOf_any t _ (by omega)).mono ?_
      rintro e w5 ⟨rfl, hw5⟩
      subst hw5
      rw [← ey]
      have EY := hide ey
      clear ey
      go_wp2_with fail
      refine (bytes_any (y : Int) 4 (by decide) _).mono ?_
      rintro e w6 ⟨rfl, b6⟩
      replace HB := hide (bt (unhide HB) b6)
      clear b6
      have hs6 : (t ++ bytesB (y : Int) 4).size = 52 := by rw [ByteArray.size_append, z5, hsz]
      obtain ⟨u, eu⟩ : ∃ u, u = t ++ bytesB (y : Int) 4 := ⟨_, rfl⟩
      go_upto_region 12 with fail
      rw [← eu] at hs6 ⊢
      have EU := hide eu
      clear eu z5
      go_wp2_with fail
      refine (zeros_any 12 (by decide) _).mono ?_
      rintro e w7 ⟨rfl, b7⟩
      replace HB := hide (bt (unhide HB) b7)
      clear b7
      have z6 := zerosB_size 12
      go_wp2
      have ef : u ++ zerosB 12 = frB slot shard s p := by
        rw [frB, frSeal, ← unhide EB, unhide EU, unhide EY]
      go_ret2
      exact ⟨by rw [← ef]; rfl, unhide HB⟩
set_option maxRecDepth 100000 in
set_option maxHeartbeats 2000000 in
theorem refPutFrame_no (slot shard : Int) (s : ByteArray) (a : Option Addr) (n cap : Nat) (p : List Int) (w : World) (hp : Ints w a n cap p) (hn : n ≤ 140737488351232) (h : ¬ FrMay slot shard s p) :
    Calls Try.prog 11 #[.int .i64 slot, .int .i64 shard, .string s, .slice a n cap] w fun e w' => e = .returned (.tuple #[.string ByteArray.empty, .int .i64 1400]) ∧ Below w.heap.size w w' := by
  obtain rfl : p.length = n := hp.1
  have HP := hide hp
  have HN := hide h
  clear hp h
  by_cases a1 : slot < 0
  · go_enter Try.func11, Try.ntmps11
    go_wp2
    go_ret2
    exact ⟨rfl, Below.refl _ _⟩
  by_cases a2 : 24 ≤ slot
  · have a2' : ¬ slot < 24 := by omega
    go_enter Try.func11, Try.ntmps11
    go_wp2
    go_ret2
    exact ⟨rfl, Below.refl _ _⟩
  by_cases a3 : shard < 0
  · go_enter Try.func11, Try.ntmps11
    go_wp2
    go_ret2
    exact ⟨rfl, Below.refl _ _⟩
  by_cases a4 : 6 ≤ shard
  · go_enter Try.func11, Try.ntmps11
    go_wp2
    go_ret2
    exact ⟨rfl, Below.refl _ _⟩
  by_cases a5 : s.size = 32
  · have dS : decide (Sls p ∧ p.length ≤ 3) = false := decide_eq_false (fun h => unhide HN ⟨⟨by omega, by omega⟩, ⟨by omega, by omega⟩, a5, h.1, h.2⟩)
    have b1 : 0 ≤ slot := by omega
    have b2 : slot < 24 := by omega
    have b3 : 0 ≤ shard := by omega
    have b4 : shard < 6 := by omega
    go_enter Try.func11, Try.ntmps11
    go_wp2_with (go_at_call 40; refine (refSealNums_any _ _ _ p 3 _ (unhide HP) hn (by decide)).mono ?_; rintro e w' ⟨rfl, hw'⟩; rw [dS, hw']; clear hw' w')
    go_ret2
    exact ⟨rfl, Below.refl _ _⟩
  · have b1 : 0 ≤ slot := by omega
    have b2 : slot < 24 := by omega
    have b3 : 0 ≤ shard := by omega
    have b4 : shard < 6 := by omega
    have b5 : ((s.size : Int) != 32) = true := by simp; omega
    go_enter Try.func11, Try.ntmps11
    go_wp2
    go_ret2
    exact ⟨rfl, Below.refl _ _⟩
theorem refPutFrame_any (slot shard : Int) (s : ByteArray) (a : Option Addr) (n cap : Nat) (p : List Int) (w : World) (hp : Ints w a n cap p) (hn : n ≤ 140737488351232) :
    Calls Try.prog 11 #[.int .i64 slot, .int .i64 shard, .string s, .slice a n cap] w fun e w' => e = .returned (.tuple #[.string (putF slot shard s p).1, .int .i64 (putF slot shard s p).2]) ∧ Below w.heap.size w w' := by
  by_cases h : FrMay slot shard s p
  · have e : putF slot shard s p = (frB slot shard s p, 0) := by rw [putF, if_pos h]
    rw [e]
    exact refPutFrame_yes slot shard s a n cap p w hp h
  · have e : putF slot shard s p = (ByteArray.empty, 1400) := by rw [putF, if_neg h]
    rw [e]
    exact refPutFrame_no slot shard s a n cap p w hp hn h
end Go.Proofs.Ytmphbajnadbggaa
