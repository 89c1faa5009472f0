/-
  AN ABSTRACT LAYER, 21: places in code; what follows at a place.
-/
import Derived.Test.YtijjoekejjnodadAbFun
namespace Go.Ab

/-- The piece of code at a place: 0, 1: the first, the second part. -/
def cAt : Code → List Nat → Code
  | c, [] => c
  | .seq a _, 0 :: p => cAt a p
  | .seq _ b, _ :: p => cAt b p
  | .cond _ a _, 0 :: p => cAt a p
  | .cond _ _ b, _ :: p => cAt b p
  | .block _ c, _ :: p => cAt c p
  | .loop c, _ :: p => cAt c p
  | c, _ => c

abbrev Ret := List XR × List (List D)
abbrev Kont := Ex → St → Option Ret

section
variable (P : Program) (X : List Entry) (A : Ann) (fuel : Nat)

def kSeq (b : Code) (k : Kont) : Kont := fun e s' => match e with
  | .normal => codeI P X A fuel b s' k
  | e => k e s'

def kBlock (id : Nat) (k : Kont) : Kont := fun e s' => match e with
  | .exit i => if i = id then k .normal s' else k (.exit i) s'
  | e => k e s'

def kLoop (c : Code) (n : Nat) (k : Kont) : Kont := fun e s' => match e with
  | .normal => loopI (codeI P X A fuel c) (atHead A c) n (atHead A c s') k
  | e => k e s'

/-- What follows at a place; 'ns': of each loop around it, the rounds that are left. -/
def kAt : Code → List Nat → List Nat → Kont → Kont
  | _, [], _, k => k
  | .seq a b, 0 :: p, ns, k => kAt a p ns (kSeq P X A fuel b k)
  | .seq _ b, _ :: p, ns, k => kAt b p ns k
  | .cond _ a _, 0 :: p, ns, k => kAt a p ns k
  | .cond _ _ b, _ :: p, ns, k => kAt b p ns k
  | .block id c, _ :: p, ns, k => kAt c p ns (kBlock id k)
  | .loop c, _ :: p, n :: ns, k => kAt c p ns (kLoop P X A fuel c n k)
  | _, _, _, k => k

/-- The loop at a place. -/
def lAt (c : Code) (p : List Nat) (n : Nat) (s : St) (k : Kont) : Option Ret :=
  loopI (codeI P X A fuel (cAt c (p ++ [0]))) (atHead A (cAt c (p ++ [0]))) n s k
end

def bodyOf (fn : Func) : Code := fn.body.getD .skip
end Go.Ab
