/- Text: what a fault's links are, and what is left of it on the stack of pieces. -/
import Derived.Test.YtndofhcnjmbfeaaDoorFauQ
namespace Go.Proofs.YtndofhcnjmbfeaaDoor
open Go.RowKit
set_option linter.unusedVariables false
set_option linter.unusedSimpArgs false

abbrev one (c : UInt8) : ByteArray := ⟨#[c]⟩
/-- a fault's text: the same for every way to read it -/
def textF : FT → ByteArray
  | .code op n c => stepT op n ++ one 61 ++ ⟨(Lib.itoa c).toArray⟩
  | .wrap op n t => stepT op n ++ one 62 ++ textF t
  | .both x y => one 40 ++ textF x ++ one 124 ++ textF y ++ one 41
/-- a piece of the stack: a mark, and a fault's tree with its block -/
abbrev Piece := ByteArray × Option (FT × Nat)
def pieceT : Piece → ByteArray
  | (m, none) => m
  | (m, some x) => m ++ textF x.1
/-- what the stack still tells: from its top (the list's last) down -/
def stackT : List Piece → ByteArray
  | [] => ⟨#[]⟩
  | p :: l => stackT l ++ pieceT p
def pieceV : Piece → List Value
  | (m, none) => [.string m, .pointer none]
  | (m, some x) => [.string m, ptr x.2 0]
def litT (l : List Piece) : List Value := l.flatMap pieceV
theorem pieceV_len (p : Piece) : (pieceV p).length = 2 := by
  obtain ⟨m, _ | x⟩ := p <;> rfl
theorem litT_len (l : List Piece) : (litT l).length = l.length * 2 := by
  induction l with
  | nil => rfl
  | cons a l ih =>
    have h := pieceV_len a
    simp only [litT, List.flatMap_cons, List.length_append, List.length_cons] at ih ⊢
    omega
theorem stackT_top (l : List Piece) (p : Piece) : stackT (l ++ [p]) = pieceT p ++ stackT l := by
  induction l with
  | nil => exact ByteArray.ext (by simp [stackT])
  | cons a l ih =>
    show stackT (l ++ [p]) ++ pieceT a = pieceT p ++ (stackT l ++ pieceT a)
    rw [ih]
    exact ByteArray.ext (by simp [Array.append_assoc])
/-- what comes of the top at a code, a wrapping, a combination -/
theorem stack_code (l : List Piece) (m op : ByteArray) (n c : Int) (b : Nat) :
    stackT (l ++ [(m, some (.code op n c, b))]) = m ++ (stepT op n ++ one 61 ++ ⟨(Lib.itoa c).toArray⟩) ++ stackT l := by
  rw [stackT_top]; rfl
theorem stack_wrap (l : List Piece) (m op : ByteArray) (n : Int) (t : FT) (b b' : Nat) :
    stackT (l ++ [(m, some (.wrap op n t, b))]) = m ++ stepT op n ++ stackT (l ++ [(one 62, some (t, b'))]) := by
  rw [stackT_top, stackT_top]
  exact ByteArray.ext (by simp [pieceT, textF, Array.append_assoc])
theorem stack_both (l : List Piece) (m : ByteArray) (x y : FT) (b bx yb : Nat) :
    stackT (l ++ [(m, some (.both x y, b))]) = m ++ stackT (l ++ [(one 41, none)] ++ [(one 124, some (y, yb))] ++ [(one 40, some (x, bx))]) := by
  rw [stackT_top, stackT_top, stackT_top, stackT_top]
  exact ByteArray.ext (by simp [pieceT, textF, Array.append_assoc])
end Go.Proofs.YtndofhcnjmbfeaaDoor
