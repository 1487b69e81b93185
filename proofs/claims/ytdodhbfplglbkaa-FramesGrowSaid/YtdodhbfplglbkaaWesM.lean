/- The rule of webs with any number of last operations, one behind the other. -/
import Derived.Orders
import Derived.StillTail
import Derived.Below
import Derived.Test.YtdodhbfplglbkaaRows
namespace Go.Proofs.Ytdodhbfplglbkaa
open Go.RowKit

section
variable {P : Program} {ops : Array Oper} {Q : Exit → Act → World → Prop}

/-- The slot that operation i writes. -/
def dstOf (ops : Array Oper) (i : Nat) : Option Tmp := (ops[i]?).bind (·.dst)
/-- The values f of the operations L are in their slots. -/
def putAll (ops : Array Oper) (f : Nat → Value) : List Nat → Act → Act
  | [], a => a
  | i :: r, a => putAll ops f r (a.put (dstOf ops i) (f i))

/-- What operation i waits for. -/
def depsOf (ops : Array Oper) (i : Nat) : List Nat := (List.range ops.size).filter fun j => Region.waitsFor .any ops i j
/-- One operation's part: from the values of those that it waits for to its own. -/
def WebStep (P : Program) (ops : Array Oper) (G : World → World → Prop) (val fresh : Nat → Value → World → Prop) (sep : Nat → Value → Nat → Value → Prop) (a0 : Act) (w0 : World) (i : Nat) (o : Oper) : Prop :=
  ∀ (f : Nat → Value) (w : World), G w0 w → (∀ j, Region.waitsFor .any ops i j = true → val j (f j) w) → (∀ j k, j ≠ k → Region.waitsFor .any ops i j = true → Region.waitsFor .any ops i k = true → sep j (f j) k (f k)) →
    ∀ K : Act → World → Prop, (∀ v w', G w w' → val i v w' → fresh i v w → K ((putAll ops f (depsOf ops i) a0).put o.dst v) w') →
      if Region.wanted o (yielded ops (putAll ops f (depsOf ops i) a0).tmps) = true then o.wp P (putAll ops f (depsOf ops i) a0) w K (fun _ _ _ => False) else K ((putAll ops f (depsOf ops i) a0).put o.dst undef) w

/-- The parts of all operations of a list, from number p on. -/
def StepsL (P : Program) (ops : Array Oper) (G : World → World → Prop) (val fresh : Nat → Value → World → Prop) (sep : Nat → Value → Nat → Value → Prop) (a0 : Act) (w0 : World) : List Oper → Nat → Prop
  | [], _ => True
  | o :: r, p => WebStep P ops G val fresh sep a0 w0 p o ∧ StepsL P ops G val fresh sep a0 w0 r (p + 1)
theorem StepsL.at_ {G : World → World → Prop} {val fresh : Nat → Value → World → Prop} {sep : Nat → Value → Nat → Value → Prop} {a0 : Act} {w0 : World} : ∀ (l : List Oper) (p : Nat), StepsL P ops G val fresh sep a0 w0 l p → ∀ i o, p ≤ i → l[i - p]? = some o → WebStep P ops G val fresh sep a0 w0 i o
  | [], _, _, _, _, _, h => by simp at h
  | a :: r, p, h, i, o, hi, ho => by
    by_cases e : i = p
    · subst e; simp at ho; subst ho; exact h.1
    · have hi' : i - p = (i - (p + 1)) + 1 := by omega
      rw [hi'] at ho
      exact StepsL.at_ r (p + 1) h.2 i o (by omega) (by simpa using ho)
end
end Go.Proofs.Ytdodhbfplglbkaa

namespace Go.Proofs.Ytdodhbfplglbkaa
open Go.RowKit
section
variable {P : Program} {ops : Array Oper} {Q : Exit → Act → World → Prop}
end
end Go.Proofs.Ytdodhbfplglbkaa

namespace Go.Proofs.Ytdodhbfplglbkaa
open Go.RowKit

section
variable {P : Program} {ops : Array Oper} {Q : Exit → Act → World → Prop}
end
end Go.Proofs.Ytdodhbfplglbkaa
