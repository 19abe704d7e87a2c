/- Trees, plain: nodes, what they cover, how deep they are. -/
import Derived.Test.YtjpccmiaimkmbaaGreatRa

namespace Tnt
open Tnr

structure Nd where
  kind : Int
  set : List R
  kids : List Int
  group : Int
  mn : Int
  mx : Int
  mode : Int
  spot : Int
  neg : Bool
def w64 (x : Int) : Int := (x + 9223372036854775808) % 18446744073709551616 - 9223372036854775808
def mv (d : Int) (n : Nd) : Nd := { n with kids := n.kids.map fun k => w64 (k + d) }

def rk (F : Nat → Nat × Nat) : List Int → Nat → Nat → Option (Nat × Nat)
  | [], f, d => some (f, d)
  | k :: ks, f, d => if f = 0 ∨ k ≠ (f : Int) - 1 then none else rk F ks (F (f - 1)).1 (max d (F (f - 1)).2)
def gf (l : List (Nat × Nat)) (i : Nat) : Nat × Nat := l.getD i (0, 0)
def ordG : List Nd → List (Nat × Nat) → Option (List (Nat × Nat))
  | [], acc => some acc
  | n :: ns, acc => match rk (gf acc) n.kids.reverse acc.length 0 with
    | none => none
    | some (f, d) => ordG ns (acc ++ [(f, d + 1)])
def ordT (ns : List Nd) : Option (List (Nat × Nat)) :=
  if ns.length = 0 ∨ 4000 < ns.length then none else
  match ordG ns [] with
  | none => none
  | some l => if (gf l (ns.length - 1)).1 = 0 then some l else none
end Tnt
