/- The text that no other place has: its letters tell the place. -/
import Derived.Test.YtaoalplglfdobaaDoorLoansMem
import Derived.Lib.ItoaLen
namespace Go.Proofs.YtaoalplglfdobaaDoor
open Go.RowKit
set_option linter.unusedVariables false

theorem digits_ge : ∀ (n : Nat), ∀ c ∈ Lib.decDigits n, 48 ≤ c.toNat ∧ c.toNat ≤ 57 := by
  intro n
  induction n using Nat.strongRecOn with
  | ind n ih =>
    intro c hc
    rw [Lib.decDigits] at hc
    split at hc
    · rename_i h
      rw [List.mem_singleton] at hc
      subst hc
      rw [UInt8.toNat_ofNat']
      omega
    · rename_i h
      rcases List.mem_append.1 hc with hc | hc
      · exact ih (n / 10) (by omega) c hc
      · rw [List.mem_singleton] at hc
        subst hc
        rw [UInt8.toNat_ofNat']
        omega
def valD (l : List UInt8) : Nat := l.foldl (fun a c => a * 10 + (c.toNat - 48)) 0
theorem valD_snoc (l : List UInt8) (c : UInt8) : valD (l ++ [c]) = valD l * 10 + (c.toNat - 48) := by
  unfold valD; rw [List.foldl_append]; rfl
theorem valD_digits : ∀ n, valD (Lib.decDigits n) = n := by
  intro n
  induction n using Nat.strongRecOn with
  | ind n ih =>
    rw [Lib.decDigits]
    split
    · rename_i h
      show 0 * 10 + ((UInt8.ofNat (48 + n)).toNat - 48) = n
      rw [UInt8.toNat_ofNat']
      omega
    · rename_i h
      rw [valD_snoc, ih (n / 10) (by omega), UInt8.toNat_ofNat']
      omega
theorem digits_inj {a b : Nat} (h : Lib.decDigits a = Lib.decDigits b) : a = b := by
  have := congrArg valD h
  rwa [valD_digits, valD_digits] at this
/-- what comes ahead of the first dot -/
theorem dot_split {a b r s : List UInt8} (ha : ∀ c ∈ a, c ≠ 46) (hb : ∀ c ∈ b, c ≠ 46) (h : a ++ 46 :: r = b ++ 46 :: s) : a = b ∧ r = s := by
  induction a generalizing b with
  | nil =>
    cases b with
    | nil => exact ⟨rfl, (List.cons.inj h).2⟩
    | cons c b => exact absurd (List.cons.inj h).1.symm (hb c (by simp))
  | cons c a ih =>
    cases b with
    | nil => exact absurd (List.cons.inj h).1 (ha c (by simp))
    | cons d b =>
      obtain ⟨h1, h2⟩ := List.cons.inj h
      obtain ⟨h3, h4⟩ := ih (fun c hc => ha c (by simp [hc])) (fun c hc => hb c (by simp [hc])) h2
      exact ⟨by rw [h1, h3], h4⟩
theorem digits_dot (n : Nat) : ∀ c ∈ Lib.decDigits n, c ≠ 46 := by
  intro c hc e
  have := (digits_ge n c hc).1
  rw [e] at this
  exact absurd this (by decide)
def pieceS (s : ByteArray) : List UInt8 := Lib.decDigits s.size ++ 46 :: s.data.toList
def piecesS (l : List ByteArray) : List UInt8 := l.flatMap pieceS
def apartS (p : PP) : List UInt8 := pieceS p.name ++ piecesS p.path
theorem bytes_inj {s t : ByteArray} (h : s.data.toList = t.data.toList) : s = t := by
  obtain ⟨⟨s⟩⟩ := s
  obtain ⟨⟨t⟩⟩ := t
  simp at h
  rw [h]
theorem piece_inj {s t : ByteArray} {r r' : List UInt8} (h : pieceS s ++ r = pieceS t ++ r') : s = t ∧ r = r' := by
  unfold pieceS at h
  rw [List.append_assoc, List.append_assoc, List.cons_append, List.cons_append] at h
  obtain ⟨h1, h2⟩ := dot_split (digits_dot _) (digits_dot _) h
  have hs : s.data.toList.length = t.data.toList.length := by
    have := digits_inj h1
    simpa using this
  obtain ⟨h3, h4⟩ := List.append_inj h2 hs
  exact ⟨bytes_inj h3, h4⟩
theorem piece_ne (s : ByteArray) (r : List UInt8) : pieceS s ++ r ≠ [] := by
  unfold pieceS; simp
theorem pieces_inj : ∀ {a b : List ByteArray}, piecesS a = piecesS b → a = b
  | [], [], _ => rfl
  | [], t :: b, h => absurd h.symm (piece_ne t _)
  | s :: a, [], h => absurd h (piece_ne s _)
  | s :: a, t :: b, h => by
    have h' : pieceS s ++ piecesS a = pieceS t ++ piecesS b := h
    obtain ⟨h1, h2⟩ := piece_inj h'
    rw [h1, pieces_inj h2]
theorem apart_inj {p q : PP} (h : apartS p = apartS q) : p = q := by
  obtain ⟨h1, h2⟩ := piece_inj h
  obtain ⟨n, a⟩ := p
  obtain ⟨m, b⟩ := q
  obtain rfl : n = m := h1
  obtain rfl : a = b := pieces_inj h2
  rfl
theorem pieces_take {l : List ByteArray} {s : ByteArray} {k : Nat} (h : l[k]? = some s) : piecesS (l.take (k + 1)) = piecesS (l.take k) ++ pieceS s := by
  unfold piecesS
  rw [List.take_add_one, h, List.flatMap_append]
  simp
theorem digits_len (n : Nat) (h : n < 18446744073709551616) : (Lib.decDigits n).length ≤ 20 := by
  rw [Lib.decDigits_length]
  exact Lib.nDigits_le20 n h
end Go.Proofs.YtaoalplglfdobaaDoor
