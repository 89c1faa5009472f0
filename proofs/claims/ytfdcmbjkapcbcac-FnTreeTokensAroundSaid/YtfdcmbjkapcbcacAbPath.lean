/-
  AN ABSTRACT LAYER, 21: places in code; what follows at a place.
-/
import Derived.Test.YtfdcmbjkapcbcacAbFun
namespace Go.Ab

/-- The piece of code at a place: 0, 1: the first, the second part. -/
def cAt : Code → List Nat → Code
  | c, [] => c
  | .seq a _, 0 :: p => cAt a p
  | .seq _ b, _ :: p => cAt b p
  | .cond _ a _, 0 :: p => cAt a p
  | .cond _ _ b, _ :: p => cAt b p
  | .block _ c, _ :: p => cAt c p
  | .loop c, _ :: p => cAt c p
  | .rangeFunc _ _ a _, 0 :: p => cAt a p
  | .rangeFunc _ _ _ b, _ :: p => cAt b p
  | c, _ => c

abbrev Ret := List XR × List (List D)
abbrev Kont := Ex → St → Option Ret
abbrev KontV := AV → St → Option Ret

def bodyOf (fn : Func) : Code := fn.body.getD .skip

section
variable (P : Program) (X : List Entry) (I : List Inl) (fuel : Nat) (np : Bool) (d : Nat) (rd : Bool) (me : FuncId)

def hdsN : Nat → Hds Ret
  | 0 => Hds.no
  | d + 1 => ⟨fnH P I (codeN P X I fuel np d false), ylH (codeN P X I fuel np d true)⟩

def kSeq (b : Code) (k : Kont) : Kont := fun e s' => match e with
  | .normal => codeN P X I fuel np d rd me b s' k
  | e => k e s'

def kBlock (id : Nat) (k : Kont) : Kont := fun e s' => match e with
  | .exit i => if i = id then k .normal s' else k (.exit i) s'
  | e => k e s'

def kLoop (c : Code) (n : Nat) (k : Kont) : Kont := fun e s' => match e with
  | .normal => loopI (codeN P X I fuel np d rd me c) (atHead (annOf I me) c) n (atHead (annOf I me) c s') k
  | e => k e s'

/-- What follows at a place; 'ns': of each loop around it, the rounds that are left. -/
def kAt : Code → List Nat → List Nat → Kont → Kont
  | _, [], _, k => k
  | .seq a b, 0 :: p, ns, k => kAt a p ns (kSeq P X I fuel np d rd me b k)
  | .seq _ b, _ :: p, ns, k => kAt b p ns k
  | .cond _ a _, 0 :: p, ns, k => kAt a p ns k
  | .cond _ _ b, _ :: p, ns, k => kAt b p ns k
  | .block id c, _ :: p, ns, k => kAt c p ns (kBlock id k)
  | .loop c, _ :: p, n :: ns, k => kAt c p ns (kLoop P X I fuel np d rd me c n k)
  | _, _, _, k => k

/-- What follows behind an operation of a region. -/
def kOp (c : Code) (j : Nat) (k : Kont) : KontV := fun x s' => match c with
  | .region id ops draw => match draw with
    | false => opsI P X (annOf I me) (fun _ => hdsN P X I fuel np d) ops (ops.toList.drop (j + 1)) ⟨putA s'.t ((ops[j]?).bind (·.dst)) x, s'.H, s'.p, s'.d⟩ fun s' => k .normal s'
    | true => opsI P X (annOf I me) (fun o => bif inlOf (annOf I me) o then hdsN P X I fuel np d else Hds.no) ops ((pickOps ops (ordAt (annOf I me) id ops.size)).drop (j + 1))
        ⟨putA s'.t (((pickOps ops (ordAt (annOf I me) id ops.size))[j]?).bind (·.dst)) x, s'.H, s'.p, s'.d⟩ fun s' => k .normal s'
  | _ => none

/-- What follows behind a range over a function. -/
def kRange (k : Kont) : KontV := fun _ s' => endRange k s'

/-- The loop at a place. -/
def lAt (c : Code) (p : List Nat) (n : Nat) (s : St) (k : Kont) : Option Ret :=
  loopI (codeN P X I fuel np d rd me (cAt c (p ++ [0]))) (atHead (annOf I me) (cAt c (p ++ [0]))) n s k
end
end Go.Ab
