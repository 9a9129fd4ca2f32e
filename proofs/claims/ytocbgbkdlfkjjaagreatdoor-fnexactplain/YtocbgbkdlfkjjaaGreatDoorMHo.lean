/- THE READING OF A PROGRAM'S WORDS, as plain functions: from a word on, what is read and where it ends, or the word with which it cannot go on. -/
import Derived.Test.YtocbgbkdlfkjjaaGreatDoorMHm
import Derived.Test.YtocbgbkdlfkjjaaGreatDoorMHb
import Derived.Deep.QuietTactic
import Derived.BigQuiet
import Derived.Shelf.Strings.Builder1
import Derived.Shelf.Small.Strs
import Derived.Shelf.Strings.BuilderF
import Derived.Shelf.Strings.BuilderK
import Derived.Shelf.Strconv.Atoi
import Derived.Shelf.Strconv.Itoa0
import Derived.Shelf.Strconv.Itoa1
import Derived.Shelf.LaysM
import Derived.Shelf.Strconv.Itoa2
import Derived.Shelf.Strconv.Itoa3
import Derived.Shelf.Strconv.Clone
import Derived.Shelf.Strings.Search1
import Derived.Test.YtocbgbkdlfkjjaaGreatDoorProg
import Derived.Test.YtocbgbkdlfkjjaaGreatDoorMHn
import Derived.Lib.AtoiErrMem
namespace Go.Proofs.YtocbgbkdlfkjjaaGreatDoor
open Go.RowKit
open Pl
inductive Res where
 | ok (t:T) (j:Nat)
 | no (p:Nat)
def isW (ws:List W3) (i:Nat) (s:ByteArray):Bool:=match ws[i]? with
 | some x=>decide (x.s=s)
 | none=>false
def xTQ (ws:List W3) (i:Nat):Int:=match ws[i]? with
 | some x=>x.k
 | none=>0
def xPQ (ws:List W3) (i:Nat):ByteArray:=match ws[i]? with
 | some x=>x.s
 | none=>⟨#[]⟩
def relI (s:ByteArray):Int:=if s=⟨#[60]⟩ then 11 else if s=⟨#[60,61]⟩ then 12 else if s=⟨#[62]⟩ then 13 else if s=⟨#[62,61]⟩ then 14 else if s=⟨#[61,61]⟩ then 15 else if s=⟨#[33,61]⟩ then 16 else 0
def nil_:ByteArray:=⟨#[]⟩
def Res.then_ (r:Res) (f:T→Nat→Res):Res:=match r with
 | .ok t j=>f t j
 | .no p=>.no p
def want (ws:List W3) (j:Nat) (s:ByteArray) (r:Res):Res:=if isW ws j s then r else .no j
def yQQ (ws:List W3) (j:Nat) (k:Int) (r:Res):Res:=if xTQ ws j=k then r else .no j
mutual
def mOne (ws:List W3):Nat→Nat→Res
 | 0,i=>.no i
 | f+1,i =>
  if isW ws i ⟨#[45]⟩ then (mOne ws f (i+1)).then_ fun x j=>.ok (.node 5 nil_ 0 [x]) j else
  if isW ws i ⟨#[40]⟩ then (x0Q ws f (i+1)).then_ fun x j=>want ws j ⟨#[41]⟩ (.ok x (j+1)) else
  if isW ws i ⟨#[108,101,110]⟩ then want ws (i+1) ⟨#[40]⟩ (yQQ ws (i+2) 1 (want ws (i+3) ⟨#[41]⟩ (.ok (.node 4 (xPQ ws (i+2)) 0 []) (i+4)))) else
  if xTQ ws i=2 then .ok (.node 1 nil_ (numV (xPQ ws i)) []) (i+1) else
  yQQ ws i 1 (if isW ws (i+1) ⟨#[91]⟩ then (x0Q ws f (i+2)).then_ fun x j=>want ws j ⟨#[93]⟩ (.ok (.node 3 (xPQ ws i) 0 [x]) (j+1)) else
   .ok (.node 2 (xPQ ws i) 0 []) (i+1))
def zgQ (ws:List W3):Nat→Nat→Res
 | 0,i=>.no i
 | f+1,i=>(mOne ws f i).then_ fun x j=>yBQ ws f x j
def yBQ (ws:List W3):Nat→T→Nat→Res
 | 0,_,i=>.no i
 | f+1,x,i=>if isW ws i ⟨#[42]⟩ then (mOne ws f (i+1)).then_ fun y j=>yBQ ws f (.node 8 nil_ 0 [x,y]) j else .ok x i
def x0Q (ws:List W3):Nat→Nat→Res
 | 0,i=>.no i
 | f+1,i=>(zgQ ws f i).then_ fun x j=>yjQ ws f x j
def yjQ (ws:List W3):Nat→T→Nat→Res
 | 0,_,i=>.no i
 | f+1,x,i=>if isW ws i ⟨#[43]⟩ then (zgQ ws f (i+1)).then_ fun y j=>yjQ ws f (.node 6 nil_ 0 [x,y]) j else
  if isW ws i ⟨#[45]⟩ then (zgQ ws f (i+1)).then_ fun y j=>yjQ ws f (.node 7 nil_ 0 [x,y]) j else .ok x i
end
def zPQ (ws:List W3) (f i:Nat):Res:=(x0Q ws f i).then_ fun x j =>
 if relI (xPQ ws j)=0 then .no j else (x0Q ws f (j+1)).then_ fun y j2=>.ok (.node (relI (xPQ ws j)) nil_ 0 [x,y]) j2
def ybQ (ws:List W3) (f i:Nat):Res :=
 if isW ws i ⟨#[114,101,97,100]⟩ then yQQ ws (i+1) 1 (.ok (.node 23 (xPQ ws (i+1)) 0 []) (i+2)) else
 if isW ws i ⟨#[99,104,101,99,107]⟩ then (zPQ ws f (i+1)).then_ fun x j=>.ok (.node 27 nil_ 0 [x]) j else
 if isW ws i ⟨#[115,107,105,112]⟩ then .ok (.node 28 nil_ 0 []) (i+1) else
 if isW ws i ⟨#[115,116,111,112]⟩ then .ok (.node 29 nil_ 0 []) (i+1) else
 yQQ ws i 1 (if isW ws (i+1) ⟨#[91]⟩ then (x0Q ws f (i+2)).then_ fun x j=>want ws j ⟨#[93]⟩ (want ws (j+1) ⟨#[61]⟩ ((x0Q ws f (j+2)).then_ fun y j2=>.ok (.node 22 (xPQ ws i) 0 [x,y]) j2)) else
  want ws (i+1) ⟨#[61]⟩ ((x0Q ws f (i+2)).then_ fun y j=>.ok (.node 21 (xPQ ws i) 0 [y]) j))
mutual
def xFQ (ws:List W3) (F:Nat):Nat→Nat→Res
 | 0,i=>.no i
 | f+1,i =>
  if isW ws i ⟨#[105,102]⟩ then (zPQ ws F (i+1)).then_ fun x j=>(ysQ ws F f j).then_ fun y j2 =>
   if isW ws j2 ⟨#[101,108,115,101]⟩ then (ysQ ws F f (j2+1)).then_ fun z j3=>.ok (.node 24 nil_ 0 [x,y,z]) j3 else .ok (.node 24 nil_ 0 [x,y,.node 30 nil_ 0 []]) j2 else
  if isW ws i ⟨#[119,104,105,108,101]⟩ then (zPQ ws F (i+1)).then_ fun x j=>(ysQ ws F f j).then_ fun y j2=>.ok (.node 25 nil_ 0 [x,y]) j2 else
  if isW ws i ⟨#[102,111,114]⟩ then yQQ ws (i+1) 1 (want ws (i+2) ⟨#[102,114,111,109]⟩ ((x0Q ws F (i+3)).then_ fun x j=>want ws j ⟨#[116,111]⟩
   ((x0Q ws F (j+1)).then_ fun y j2=>(ysQ ws F f j2).then_ fun z j3=>.ok (.node 26 (xPQ ws (i+1)) 0 [x,y,z]) j3))) else
  (ybQ ws F i).then_ fun x j=>want ws j ⟨#[59]⟩ (.ok x (j+1))
def ysQ (ws:List W3) (F:Nat):Nat→Nat→Res
 | 0,i=>.no i
 | f+1,i=>want ws i ⟨#[123]⟩ (mList ws F f [] (i+1))
def mList (ws:List W3) (F:Nat):Nat→List T→Nat→Res
 | 0,_,i=>.no i
 | f+1,acc,i=>if isW ws i ⟨#[125]⟩ then .ok (.node 30 nil_ 0 acc) (i+1) else (xFQ ws F f i).then_ fun x j=>mList ws F f (acc++[x]) j
end
def mDecl (ws:List W3) (i:Nat):Res :=
 if isW ws i ⟨#[118,97,114]⟩ then yQQ ws (i+1) 1 (want ws (i+2) ⟨#[59]⟩ (.ok (.node 31 (xPQ ws (i+1)) 0 []) (i+3))) else
 want ws i ⟨#[97,114,114,97,121]⟩ (yQQ ws (i+1) 1 (want ws (i+2) ⟨#[91]⟩ (
  if isW ws (i+3) ⟨#[63]⟩ then want ws (i+4) ⟨#[93]⟩ (want ws (i+5) ⟨#[59]⟩ (.ok (.node 32 (xPQ ws (i+1)) (-1) []) (i+6))) else
  yQQ ws (i+3) 2 (want ws (i+4) ⟨#[93]⟩ (want ws (i+5) ⟨#[59]⟩ (.ok (.node 32 (xPQ ws (i+1)) (numV (xPQ ws (i+3))) []) (i+6)))))))
def mAll (ws:List W3) (F:Nat) (ds:List T):Nat→List T→Nat→Res
 | 0,_,i=>.no i
 | f+1,acc,i=>if i<ws.length then (xFQ ws F F i).then_ fun x j=>mAll ws F ds f (acc++[x]) j else .ok (.node 40 nil_ 0 (ds++[.node 30 nil_ 0 acc])) i
def mProg (ws:List W3) (F:Nat):Nat→List T→Nat→Res
 | 0,_,i=>.no i
 | f+1,ds,i=>if isW ws i ⟨#[118,97,114]⟩ || isW ws i ⟨#[97,114,114,97,121]⟩ then (mDecl ws i).then_ fun x j=>mProg ws F f (ds++[x]) j else mAll ws F ds F [] i
def WsOk (ws:List W3):Prop:=∀ x∈ws,xAQ x.s=x.k∧x.k≠0
theorem yCQ {ws:List W3} {i:Nat} {s:ByteArray} (h:isW ws i s=true):i<ws.length:=by
 unfold isW at h
 by_cases q:i<ws.length
 ·exact q
 ·rw [List.getElem?_eq_none (by omega)] at h;cases h
theorem kindW_lt {ws:List W3} {i:Nat} {k:Int} (h:xTQ ws i=k) (hk:k≠0):i<ws.length:=by
 unfold xTQ at h
 by_cases q:i<ws.length
 ·exact q
 ·rw [List.getElem?_eq_none (by omega)] at h;exact absurd h.symm hk
theorem isW_end {ws:List W3} {i:Nat} (s:ByteArray) (h:ws.length≤i):isW ws i s=false:=by
 unfold isW;rw [List.getElem?_eq_none h]
theorem kindW_end {ws:List W3} {i:Nat} (h:ws.length≤i):xTQ ws i=0:=by
 unfold xTQ;rw [List.getElem?_eq_none h]
theorem textW_end {ws:List W3} {i:Nat} (h:ws.length≤i):xPQ ws i=⟨#[]⟩:=by
 unfold xPQ;rw [List.getElem?_eq_none h]
theorem isW_text {ws:List W3} {i:Nat} {s:ByteArray} (h:isW ws i s=true):xPQ ws i=s:=by
 unfold isW at h;unfold xPQ
 split at h
 ·rename_i x hx
  simpa using h
 ·cases h
theorem isW_of_text {ws:List W3} {i:Nat} {s:ByteArray} (hi:i<ws.length):isW ws i s=decide (xPQ ws i=s):=by
 unfold isW xPQ
 rw [List.getElem?_eq_getElem hi]
theorem isW_kind {ws:List W3} {i:Nat} {s:ByteArray} (hw:WsOk ws) (h:isW ws i s=true):xTQ ws i=xAQ s:=by
 have hi:=yCQ h
 have ht:=isW_text h
 unfold xTQ
 unfold xPQ at ht
 rw [List.getElem?_eq_getElem hi] at ht ⊢
 simp only at ht ⊢
 rw [← ht]
 exact ((hw _ (List.getElem_mem hi)).1).symm
theorem xsQ {r:Res} {f:T→Nat→Res} {t:T} {j:Nat} (h:r.then_ f=.ok t j):∃ x i,r=.ok x i∧f x i=.ok t j:=by
 cases r with
 | ok x i=>exact ⟨x,i,rfl,h⟩
 | no p=>cases h
theorem xEQ {ws:List W3} {i:Nat} {s:ByteArray} {r:Res} {t:T} {j:Nat} (h:want ws i s r=.ok t j):isW ws i s=true∧r=.ok t j:=by
 unfold want at h
 split at h
 ·rename_i q;exact ⟨q,h⟩
 ·cases h
theorem ypQ {ws:List W3} {i:Nat} {k:Int} {r:Res} {t:T} {j:Nat} (h:yQQ ws i k r=.ok t j):xTQ ws i=k∧r=.ok t j:=by
 unfold yQQ at h
 split at h
 ·rename_i q;exact ⟨q,h⟩
 ·cases h
theorem xDQ {t t':T} {j j':Nat} (h:Res.ok t j=.ok t' j'):t=t'∧j=j':=by cases h;exact ⟨rfl,rfl⟩
def Adv (ws:List W3) (f:Nat):Prop:=(∀ i t j,mOne ws f i=.ok t j→i<j∧j≤ws.length)∧(∀ i t j,zgQ ws f i=.ok t j→i<j∧j≤ws.length) ∧
 (∀ x i t j,i≤ws.length→yBQ ws f x i=.ok t j→i≤j∧j≤ws.length)∧(∀ i t j,x0Q ws f i=.ok t j→i<j∧j≤ws.length)∧(∀ x i t j,i≤ws.length→yjQ ws f x i=.ok t j→i≤j∧j≤ws.length)
theorem adv_one {ws:List W3} {f:Nat} (ih:Adv ws f) {i:Nat} {t:T} {j:Nat} (h:mOne ws (f+1) i=.ok t j):i<j∧j≤ws.length:=by
 obtain ⟨a1,a2,a3,a4,a5⟩:=ih
 simp only [mOne] at h
 split at h
 ·obtain ⟨x,k,h1,h2⟩:=xsQ h
  have:=a1 _ _ _ h1
  have:=(xDQ h2).2
  omega
 ·split at h
  ·obtain ⟨x,k,h1,h2⟩:=xsQ h
   obtain ⟨h3,h4⟩:=xEQ h2
   have:=a4 _ _ _ h1
   have:=yCQ h3
   have:=(xDQ h4).2
   omega
  ·split at h
   ·obtain ⟨g1,h⟩:=xEQ h
    obtain ⟨g2,h⟩:=ypQ h
    obtain ⟨g3,h⟩:=xEQ h
    have:=yCQ g3
    have:=(xDQ h).2
    omega
   ·split at h
    ·rename_i g
     have:=kindW_lt g (by decide)
     have:=(xDQ h).2
     omega
    ·obtain ⟨g,h⟩:=ypQ h
     have:=kindW_lt g (by decide)
     split at h
     ·obtain ⟨x,k,h1,h2⟩:=xsQ h
      obtain ⟨h3,h4⟩:=xEQ h2
      have:=a4 _ _ _ h1
      have:=yCQ h3
      have:=(xDQ h4).2
      omega
     ·have:=(xDQ h).2
      omega
theorem adv (ws:List W3) (f:Nat):Adv ws f:=by
 induction f with
 | zero=>exact ⟨fun _ _ _ h=>by simp [mOne] at h,fun _ _ _ h=>by simp [zgQ] at h,fun _ _ _ _ _ h=>by simp [yBQ] at h,fun _ _ _ h=>by simp [x0Q] at h,fun _ _ _ _ _ h=>by simp [yjQ] at h⟩
 | succ f ih =>
  have ih':=ih
  obtain ⟨a1,a2,a3,a4,a5⟩:=ih
  refine ⟨fun i t j h=>adv_one ih' h,fun i t j h=>?_,fun x i t j hi h=>?_,fun i t j h=>?_,fun x i t j hi h=>?_⟩
  ·simp only [zgQ] at h
   obtain ⟨x,k,h1,h2⟩:=xsQ h
   have q:=a1 _ _ _ h1
   have:=a3 _ _ _ _ q.2 h2
   omega
  ·simp only [yBQ] at h
   split at h
   ·obtain ⟨y,k,h1,h2⟩:=xsQ h
    have q:=a1 _ _ _ h1
    have:=a3 _ _ _ _ q.2 h2
    omega
   ·have:=(xDQ h).2
    omega
  ·simp only [x0Q] at h
   obtain ⟨x,k,h1,h2⟩:=xsQ h
   have q:=a2 _ _ _ h1
   have:=a5 _ _ _ _ q.2 h2
   omega
  ·simp only [yjQ] at h
   split at h
   ·obtain ⟨y,k,h1,h2⟩:=xsQ h
    have q:=a2 _ _ _ h1
    have:=a5 _ _ _ _ q.2 h2
    omega
   ·split at h
    ·obtain ⟨y,k,h1,h2⟩:=xsQ h
     have q:=a2 _ _ _ h1
     have:=a5 _ _ _ _ q.2 h2
     omega
    ·have:=(xDQ h).2
     omega
theorem adv_cond {ws:List W3} {f i:Nat} {t:T} {j:Nat} (h:zPQ ws f i=.ok t j):i<j∧j≤ws.length:=by
 unfold zPQ at h
 obtain ⟨x,k,h1,h2⟩:=xsQ h
 have q:=(adv ws f).2.2.2.1 _ _ _ h1
 split at h2
 ·cases h2
 ·obtain ⟨y,k2,h3,h4⟩:=xsQ h2
  have q2:=(adv ws f).2.2.2.1 _ _ _ h3
  have:=(xDQ h4).2
  omega
theorem adv_short {ws:List W3} {f i:Nat} {t:T} {j:Nat} (h:ybQ ws f i=.ok t j):i<j∧j≤ws.length:=by
 unfold ybQ at h
 have ax:=(adv ws f).2.2.2.1
 split at h
 ·obtain ⟨g,h⟩:=ypQ h
  have:=kindW_lt g (by decide)
  have:=(xDQ h).2
  omega
 ·split at h
  ·obtain ⟨x,k,h1,h2⟩:=xsQ h
   have:=adv_cond h1
   have:=(xDQ h2).2
   omega
  ·split at h
   ·rename_i g
    have:=yCQ g
    have:=(xDQ h).2
    omega
   ·split at h
    ·rename_i g
     have:=yCQ g
     have:=(xDQ h).2
     omega
    ·obtain ⟨g,h⟩:=ypQ h
     split at h
     ·obtain ⟨x,k,h1,h2⟩:=xsQ h
      obtain ⟨h3,h4⟩:=xEQ h2
      obtain ⟨h5,h6⟩:=xEQ h4
      obtain ⟨y,k2,h7,h8⟩:=xsQ h6
      have:=ax _ _ _ h1
      have:=ax _ _ _ h7
      have:=(xDQ h8).2
      omega
     ·obtain ⟨h5,h6⟩:=xEQ h
      obtain ⟨y,k2,h7,h8⟩:=xsQ h6
      have:=ax _ _ _ h7
      have:=(xDQ h8).2
      omega
def AdvS (ws:List W3) (F f:Nat):Prop:=(∀ i t j,xFQ ws F f i=.ok t j→i<j∧j≤ws.length)∧(∀ i t j,ysQ ws F f i=.ok t j→i<j∧j≤ws.length)∧(∀ acc i t j,mList ws F f acc i=.ok t j→i<j∧j≤ws.length)
theorem advS (ws:List W3) (F f:Nat):AdvS ws F f:=by
 induction f with
 | zero=>exact ⟨fun _ _ _ h=>by simp [xFQ] at h,fun _ _ _ h=>by simp [ysQ] at h,fun _ _ _ _ h=>by simp [mList] at h⟩
 | succ f ih =>
  obtain ⟨a1,a2,a3⟩:=ih
  have ax:=(adv ws F).2.2.2.1
  refine ⟨fun i t j h=>?_,fun i t j h=>?_,fun acc i t j h=>?_⟩
  ·simp only [xFQ] at h
   split at h
   ·obtain ⟨x,k,h1,h2⟩:=xsQ h
    obtain ⟨y,k2,h3,h4⟩:=xsQ h2
    have:=adv_cond h1
    have:=a2 _ _ _ h3
    split at h4
    ·obtain ⟨z,k3,h5,h6⟩:=xsQ h4
     have:=a2 _ _ _ h5
     have:=(xDQ h6).2
     omega
    ·have:=(xDQ h4).2
     omega
   ·split at h
    ·obtain ⟨x,k,h1,h2⟩:=xsQ h
     obtain ⟨y,k2,h3,h4⟩:=xsQ h2
     have:=adv_cond h1
     have:=a2 _ _ _ h3
     have:=(xDQ h4).2
     omega
    ·split at h
     ·obtain ⟨_,h⟩:=ypQ h
      obtain ⟨_,h⟩:=xEQ h
      obtain ⟨x,k,h1,h2⟩:=xsQ h
      obtain ⟨_,h2⟩:=xEQ h2
      obtain ⟨y,k2,h3,h4⟩:=xsQ h2
      obtain ⟨z,k3,h5,h6⟩:=xsQ h4
      have:=ax _ _ _ h1
      have:=ax _ _ _ h3
      have:=a2 _ _ _ h5
      have:=(xDQ h6).2
      omega
     ·obtain ⟨x,k,h1,h2⟩:=xsQ h
      obtain ⟨h3,h4⟩:=xEQ h2
      have:=adv_short h1
      have:=yCQ h3
      have:=(xDQ h4).2
      omega
  ·simp only [ysQ] at h
   obtain ⟨g,h⟩:=xEQ h
   have:=a3 _ _ _ _ h
   omega
  ·simp only [mList] at h
   split at h
   ·rename_i g
    have:=yCQ g
    have:=(xDQ h).2
    omega
   ·obtain ⟨x,k,h1,h2⟩:=xsQ h
    have:=a1 _ _ _ h1
    have:=a3 _ _ _ _ h2
    omega
theorem adv_decl {ws:List W3} {i:Nat} {t:T} {j:Nat} (h:mDecl ws i=.ok t j):i<j∧j≤ws.length:=by
 unfold mDecl at h
 split at h
 ·obtain ⟨_,h⟩:=ypQ h
  obtain ⟨g,h⟩:=xEQ h
  have:=yCQ g
  have:=(xDQ h).2
  omega
 ·obtain ⟨_,h⟩:=xEQ h
  obtain ⟨_,h⟩:=ypQ h
  obtain ⟨_,h⟩:=xEQ h
  split at h
  ·obtain ⟨_,h⟩:=xEQ h
   obtain ⟨g,h⟩:=xEQ h
   have:=yCQ g
   have:=(xDQ h).2
   omega
  ·obtain ⟨_,h⟩:=ypQ h
   obtain ⟨_,h⟩:=xEQ h
   obtain ⟨g,h⟩:=xEQ h
   have:=yCQ g
   have:=(xDQ h).2
   omega
theorem x6Q {r:Res} {f:T→Nat→Res} {p:Nat} (h:r.then_ f=.no p):r=.no p∨∃ x i,r=.ok x i∧f x i=.no p:=by
 cases r with
 | ok x i=>exact .inr ⟨x,i,rfl,h⟩
 | no q=>exact .inl h
theorem yFQ {ws:List W3} {i:Nat} {s:ByteArray} {r:Res} {p:Nat} (h:want ws i s r=.no p):p=i∨r=.no p:=by
 unfold want at h
 split at h
 ·exact .inr h
 ·cases h;exact .inl rfl
theorem zZQ {ws:List W3} {i:Nat} {k:Int} {r:Res} {p:Nat} (h:yQQ ws i k r=.no p):p=i∨r=.no p:=by
 unfold yQQ at h
 split at h
 ·exact .inr h
 ·cases h;exact .inl rfl
theorem no_inj {p q:Nat} (h:Res.no p=.no q):p=q:=by cases h;rfl
def AdvN (ws:List W3) (f:Nat):Prop:=(∀ i p,mOne ws f i=.no p→i≤p)∧(∀ i p,zgQ ws f i=.no p→i≤p)∧(∀ x i p,yBQ ws f x i=.no p→i≤p)∧(∀ i p,x0Q ws f i=.no p→i≤p)∧(∀ x i p,yjQ ws f x i=.no p→i≤p)
theorem advN_one {ws:List W3} {f:Nat} (ih:AdvN ws f) {i p:Nat} (h:mOne ws (f+1) i=.no p):i≤p:=by
 obtain ⟨a1,a2,a3,a4,a5⟩:=ih
 have e4:=(adv ws f).2.2.2.1
 simp only [mOne] at h
 split at h
 ·rcases x6Q h with h | ⟨x,k,h1,h2⟩
  ·have:=a1 _ _ h;omega
  ·cases h2
 ·split at h
  ·rcases x6Q h with h | ⟨x,k,h1,h2⟩
   ·have:=a4 _ _ h;omega
   ·have:=e4 _ _ _ h1
    rcases yFQ h2 with h2 | h2
    ·omega
    ·cases h2
  ·split at h
   ·rcases yFQ h with h | h
    ·omega
    ·rcases zZQ h with h | h
     ·omega
     ·rcases yFQ h with h | h
      ·omega
      ·cases h
   ·split at h
    ·cases h
    ·rcases zZQ h with h | h
     ·omega
     ·split at h
      ·rcases x6Q h with h | ⟨x,k,h1,h2⟩
       ·have:=a4 _ _ h;omega
       ·have:=e4 _ _ _ h1
        rcases yFQ h2 with h2 | h2
        ·omega
        ·cases h2
      ·cases h
theorem advN (ws:List W3) (f:Nat):AdvN ws f:=by
 induction f with
 | zero=>exact ⟨(fun _ _ h=>by simp only [mOne] at h;exact Nat.le_of_eq (no_inj h)),(fun _ _ h=>by simp only [zgQ] at h;exact Nat.le_of_eq (no_inj h)),(fun _ _ _ h=>by simp only [yBQ] at h;exact Nat.le_of_eq (no_inj h)),(fun _ _ h=>by simp only [x0Q] at h;exact Nat.le_of_eq (no_inj h)),(fun _ _ _ h=>by simp only [yjQ] at h;exact Nat.le_of_eq (no_inj h))⟩
 | succ f ih =>
  have ih':=ih
  obtain ⟨a1,a2,a3,a4,a5⟩:=ih
  have e1:=(adv ws f).1
  have e2:=(adv ws f).2.1
  refine ⟨fun i p h=>advN_one ih' h,fun i p h=>?_,fun x i p h=>?_,fun i p h=>?_,fun x i p h=>?_⟩
  ·simp only [zgQ] at h
   rcases x6Q h with h | ⟨x,k,h1,h2⟩
   ·exact a1 _ _ h
   ·have:=e1 _ _ _ h1;have:=a3 _ _ _ h2;omega
  ·simp only [yBQ] at h
   split at h
   ·rcases x6Q h with h | ⟨x,k,h1,h2⟩
    ·have:=a1 _ _ h;omega
    ·have:=e1 _ _ _ h1;have:=a3 _ _ _ h2;omega
   ·cases h
  ·simp only [x0Q] at h
   rcases x6Q h with h | ⟨x,k,h1,h2⟩
   ·exact a2 _ _ h
   ·have:=e2 _ _ _ h1;have:=a5 _ _ _ h2;omega
  ·simp only [yjQ] at h
   split at h
   ·rcases x6Q h with h | ⟨x,k,h1,h2⟩
    ·have:=a2 _ _ h;omega
    ·have:=e2 _ _ _ h1;have:=a5 _ _ _ h2;omega
   ·split at h
    ·rcases x6Q h with h | ⟨x,k,h1,h2⟩
     ·have:=a2 _ _ h;omega
     ·have:=e2 _ _ _ h1;have:=a5 _ _ _ h2;omega
    ·cases h
theorem advN_cond {ws:List W3} {f i p:Nat} (h:zPQ ws f i=.no p):i≤p:=by
 unfold zPQ at h
 have e4:=(adv ws f).2.2.2.1
 have n4:=(advN ws f).2.2.2.1
 rcases x6Q h with h | ⟨x,k,h1,h2⟩
 ·exact n4 _ _ h
 ·have:=e4 _ _ _ h1
  split at h2
  ·cases h2;omega
  ·rcases x6Q h2 with h2 | ⟨y,k2,h3,h4⟩
   ·have:=n4 _ _ h2;omega
   ·cases h4
theorem advN_short {ws:List W3} {f i p:Nat} (h:ybQ ws f i=.no p):i≤p:=by
 unfold ybQ at h
 have e4:=(adv ws f).2.2.2.1
 have n4:=(advN ws f).2.2.2.1
 split at h
 ·rcases zZQ h with h | h
  ·omega
  ·cases h
 ·split at h
  ·rcases x6Q h with h | ⟨x,k,h1,h2⟩
   ·have:=advN_cond h;omega
   ·cases h2
  ·split at h
   ·cases h
   ·split at h
    ·cases h
    ·rcases zZQ h with h | h
     ·omega
     ·split at h
      ·rcases x6Q h with h | ⟨x,k,h1,h2⟩
       ·have:=n4 _ _ h;omega
       ·have:=e4 _ _ _ h1
        rcases yFQ h2 with h2 | h2
        ·omega
        ·rcases yFQ h2 with h2 | h2
         ·omega
         ·rcases x6Q h2 with h2 | ⟨y,k2,h3,h4⟩
          ·have:=n4 _ _ h2;omega
          ·cases h4
      ·rcases yFQ h with h | h
       ·omega
       ·rcases x6Q h with h | ⟨y,k2,h3,h4⟩
        ·have:=n4 _ _ h;omega
        ·cases h4
def AdvNS (ws:List W3) (F f:Nat):Prop:=(∀ i p,xFQ ws F f i=.no p→i≤p)∧(∀ i p,ysQ ws F f i=.no p→i≤p)∧(∀ acc i p,mList ws F f acc i=.no p→i≤p)
theorem advNS (ws:List W3) (F f:Nat):AdvNS ws F f:=by
 induction f with
 | zero=>exact ⟨(fun _ _ h=>by simp only [xFQ] at h;exact Nat.le_of_eq (no_inj h)),(fun _ _ h=>by simp only [ysQ] at h;exact Nat.le_of_eq (no_inj h)),(fun _ _ _ h=>by simp only [mList] at h;exact Nat.le_of_eq (no_inj h))⟩
 | succ f ih =>
  obtain ⟨a1,a2,a3⟩:=ih
  have b1:=(advS ws F f).1
  have b2:=(advS ws F f).2.1
  have e4:=(adv ws F).2.2.2.1
  have n4:=(advN ws F).2.2.2.1
  refine ⟨fun i p h=>?_,fun i p h=>?_,fun acc i p h=>?_⟩
  ·simp only [xFQ] at h
   split at h
   ·rcases x6Q h with h | ⟨x,k,h1,h2⟩
    ·have:=advN_cond h;omega
    ·have:=adv_cond h1
     rcases x6Q h2 with h2 | ⟨y,k2,h3,h4⟩
     ·have:=a2 _ _ h2;omega
     ·have:=b2 _ _ _ h3
      split at h4
      ·rcases x6Q h4 with h4 | ⟨z,k3,h5,h6⟩
       ·have:=a2 _ _ h4;omega
       ·cases h6
      ·cases h4
   ·split at h
    ·rcases x6Q h with h | ⟨x,k,h1,h2⟩
     ·have:=advN_cond h;omega
     ·have:=adv_cond h1
      rcases x6Q h2 with h2 | ⟨y,k2,h3,h4⟩
      ·have:=a2 _ _ h2;omega
      ·cases h4
    ·split at h
     ·rcases zZQ h with h | h
      ·omega
      ·rcases yFQ h with h | h
       ·omega
       ·rcases x6Q h with h | ⟨x,k,h1,h2⟩
        ·have:=n4 _ _ h;omega
        ·have:=e4 _ _ _ h1
         rcases yFQ h2 with h2 | h2
         ·omega
         ·rcases x6Q h2 with h2 | ⟨y,k2,h3,h4⟩
          ·have:=n4 _ _ h2;omega
          ·have:=e4 _ _ _ h3
           rcases x6Q h4 with h4 | ⟨z,k3,h5,h6⟩
           ·have:=a2 _ _ h4;omega
           ·cases h6
     ·rcases x6Q h with h | ⟨x,k,h1,h2⟩
      ·exact advN_short h
      ·have:=adv_short h1
       rcases yFQ h2 with h2 | h2
       ·omega
       ·cases h2
  ·simp only [ysQ] at h
   rcases yFQ h with h | h
   ·omega
   ·have:=a3 _ _ _ h;omega
  ·simp only [mList] at h
   split at h
   ·cases h
   ·rcases x6Q h with h | ⟨x,k,h1,h2⟩
    ·exact a1 _ _ h
    ·have:=b1 _ _ _ h1;have:=a3 _ _ _ h2;omega
abbrev St2:=Nat × Bool
def SR (r:Res) (st:St2) (t:T) (st':St2):Prop:=if st.2=true then st'=st else match r with
 | .ok t' j=>t=t'∧st'=(j,false)
 | .no p=>st'=(p,true)
def tk (ws:List W3) (st:St2) (s:ByteArray):Bool:=!st.2 && isW ws st.1 s
def tkS (ws:List W3) (st:St2) (s:ByteArray):St2:=if tk ws st s then (st.1+1,false) else st
def nd (ws:List W3) (st:St2) (s:ByteArray):St2:=if tk ws st s then (st.1+1,false) else (st.1,true)
def nmB (ws:List W3) (st:St2):Bool:=!st.2 && decide (xTQ ws st.1=1)
def nmT (ws:List W3) (st:St2):ByteArray:=if nmB ws st then xPQ ws st.1 else ⟨#[]⟩
def nmS (ws:List W3) (st:St2):St2:=if nmB ws st then (st.1+1,false) else (st.1,true)
theorem tk_yes {ws:List W3} {st:St2} {s:ByteArray} (h:tk ws st s=true):st.2=false∧isW ws st.1 s=true:=by
 unfold tk at h;simpa using h
theorem SR.bad {r:Res} {i:Nat} {t:T} {st':St2} (h:SR r (i,true) t st'):st'=(i,true):=by simpa [SR] using h
theorem SR.ok {i j:Nat} {t t':T} {st':St2} (h:SR (.ok t' j) (i,false) t st'):t=t'∧st'=(j,false):=by simpa [SR] using h
theorem SR.no {i p:Nat} {t:T} {st':St2} (h:SR (.no p) (i,false) t st'):st'=(p,true):=by simpa [SR] using h
theorem SR.mk_bad (r:Res) (i:Nat) (t:T):SR r (i,true) t (i,true):=by simp [SR]
theorem SR.mk_ok (i:Nat) (t:T) (j:Nat):SR (.ok t j) (i,false) t (j,false):=by simp [SR]
theorem SR.mk_no (i:Nat) (t:T) (p:Nat):SR (.no p) (i,false) t (p,true):=by simp [SR]
theorem yaQ (ws:List W3) (i:Nat) (s:ByteArray):nd ws (i,true) s=(i,true):=by simp [nd,tk]
theorem ymQ (ws:List W3) (i:Nat) (s:ByteArray):nd ws (i,false) s=if isW ws i s then (i+1,false) else (i,true):=by simp [nd,tk]
end Go.Proofs.YtocbgbkdlfkjjaaGreatDoor
namespace Go.Proofs.YtocbgbkdlfkjjaaGreatDoor
open Go.RowKit
inductive A where
 | node (k:Int) (s:ByteArray) (m:Int) (a:Option Addr) (c:Nat) (kids:List A)
theorem A.induct {P:A→Prop} (h:∀ k s m a c kk,(∀ x∈kk,P x)→P (.node k s m a c kk)):∀ x,P x
 | .node k s m a c kk=>h k s m a c kk fun x _=>A.induct h x
mutual
def A.erase:A→T
 | .node k s m _ _ kk=>.node k s m (xmQ kk)
def xmQ:List A→List T
 | []=>[]
 | x :: r=>x.erase :: xmQ r
end
def A.val:A→Value
 | .node k s m a c kk=>.agg #[.int .i64 k,.string s,.int .i64 m,.slice a kk.length c]
def A.cells:A→List Value
 | .node k s m a c kk=>[.int .i64 k,.string s,.int .i64 m,.slice a kk.length c]
def xqQ (kk:List A):List Value:=kk.flatMap A.cells
def zVQ (a:Option Addr):List Nat:=match a with
 | some p=>[p.block]
 | none=>[]
mutual
def A.foot:A→List Nat
 | .node _ _ _ a _ kk=>(if kk.length=0 then [] else zVQ a)++feet kk
def feet:List A→List Nat
 | []=>[]
 | x :: r=>x.foot++feet r
end
def Bed (w:World) (a:Option Addr) (kk:List A):Prop:=kk=[]∨∃ b cs,a=some ⟨b,0,none⟩∧w.heap[b]?=some (.cells cs 31 (0,0))∧∀ (i:Nat) (v:Value),(xqQ kk)[i]?=some v→cs[i]?=some v
mutual
def Sits (w:World):A→Prop
 | .node _ s _ a _ kk=>s.size≤maxLen∧kk.length≤maxLen∧Bed w a kk∧SitsL w kk
def SitsL (w:World):List A→Prop
 | []=>True
 | x :: r=>Sits w x∧SitsL w r
end
theorem xzQ (kk:List A):(xmQ kk).length=kk.length:=by
 induction kk with
 | nil=>rfl
 | cons x r ih=>simp only [xmQ,List.length_cons,ih]
theorem xvQ (p q:List A):xmQ (p++q)=xmQ p++xmQ q:=by
 induction p with
 | nil=>rfl
 | cons x r ih=>simp only [List.cons_append,xmQ,ih]
theorem yeQ (p q:List A):feet (p++q)=feet p++feet q:=by
 induction p with
 | nil=>rfl
 | cons x r ih=>simp only [List.cons_append,feet,ih,List.append_assoc]
theorem yyQ (w:World) (kk:List A):SitsL w kk ↔ ∀ x∈kk,Sits w x:=by
 induction kk with
 | nil=>simp [SitsL]
 | cons x r ih=>simp only [SitsL,ih,List.mem_cons,forall_eq_or_imp]
theorem feet_mem {kk:List A} {b:Nat}:b∈feet kk ↔ ∃ x∈kk,b∈x.foot:=by
 induction kk with
 | nil=>simp [feet]
 | cons x r ih=>simp only [feet,List.mem_append,ih,List.mem_cons,exists_eq_or_imp]
theorem ziQ (p q:List A):xqQ (p++q)=xqQ p++xqQ q:=by simp [xqQ]
theorem cellsL_get {kk:List A} {i:Nat} {k m:Int} {s:ByteArray} {a:Option Addr} {c:Nat} {q:List A} (h:kk[i]?=some (.node k s m a c q)) :
    (xqQ kk)[i * 4]?=some (.int .i64 k)∧(xqQ kk)[i * 4+1]?=some (.string s)∧(xqQ kk)[i * 4+2]?=some (.int .i64 m)∧(xqQ kk)[i * 4+3]?=some (.slice a q.length c):=by
 induction kk generalizing i with
 | nil=>simp at h
 | cons x r ih =>
   cases i with
   | zero =>
     simp at h
     subst h
     simp [xqQ,A.cells]
   | succ i =>
     simp at h
     have e:xqQ (x :: r)=x.cells++xqQ r:=by simp [xqQ]
     have l:x.cells.length=4:=by cases x;rfl
     obtain ⟨h0,h1,h2,h3⟩:=ih h
     rw [e]
     refine ⟨?_,?_,?_,?_⟩ <;> rw [List.getElem?_append_right (by omega),l]
     ·rw [show (i+1) * 4 - 4=i * 4 by omega];exact h0
     ·rw [show (i+1) * 4+1 - 4=i * 4+1 by omega];exact h1
     ·rw [show (i+1) * 4+2 - 4=i * 4+2 by omega];exact h2
     ·rw [show (i+1) * 4+3 - 4=i * 4+3 by omega];exact h3
theorem Bed.stay {w w':World} {a:Option Addr} {kk:List A} (h:Bed w a kk) (hs:∀ b∈(if kk.length=0 then [] else zVQ a),w'.heap[b]?=w.heap[b]?):Bed w' a kk:=by
 rcases h with h | ⟨b,cs,rfl,h1,h2⟩
 ·exact .inl h
 ·by_cases e:kk.length=0
  ·exact .inl (List.eq_nil_of_length_eq_zero e)
  ·rw [if_neg e] at hs
   exact .inr ⟨b,cs,rfl,(hs b (by simp [zVQ])).trans h1,h2⟩
theorem Sits.stay {w w':World} (x:A):(∀ b∈x.foot,w'.heap[b]?=w.heap[b]?)→Sits w x→Sits w' x:=by
 refine A.induct (P:=fun x=>(∀ b∈x.foot,w'.heap[b]?=w.heap[b]?)→Sits w x→Sits w' x) ?_ x
 intro k s m a c kk ih hs h
 simp only [Sits] at h ⊢
 simp only [A.foot,List.mem_append] at hs
 refine ⟨h.1,h.2.1,h.2.2.1.stay fun b hb=>hs b (.inl hb),(yyQ _ _).2 fun x hx=>ih x hx (fun b hb=>hs b (.inr (feet_mem.2 ⟨x,hx,hb⟩))) ((yyQ _ _).1 h.2.2.2 x hx)⟩
theorem SitsL.stay {w w':World} {kk:List A} (h:SitsL w kk) (hs:∀ b∈feet kk,w'.heap[b]?=w.heap[b]?):SitsL w' kk :=
 (yyQ _ _).2 fun x hx=>Sits.stay x (fun b hb=>hs b (feet_mem.2 ⟨x,hx,hb⟩)) ((yyQ _ _).1 h x hx)
theorem Sits.lt {w:World} (x:A):Sits w x→∀ b∈x.foot,b<w.heap.size:=by
 refine A.induct (P:=fun x=>Sits w x→∀ b∈x.foot,b<w.heap.size) ?_ x
 intro k s m a c kk ih h b hb
 simp only [Sits] at h
 simp only [A.foot,List.mem_append] at hb
 rcases hb with hb | hb
 ·rcases h.2.2.1 with h1 | ⟨b',cs,rfl,h1,_⟩
  ·subst h1;simp at hb
  ·split at hb
   ·cases hb
   ·simp [zVQ] at hb
    subst hb
    exact (Array.getElem?_eq_some_iff.1 h1).1
 ·obtain ⟨y,hy,hb⟩:=feet_mem.1 hb
  exact ih y hy ((yyQ _ _).1 h.2.2.2 y hy) b hb
theorem SitsL.lt {w:World} {kk:List A} (h:SitsL w kk):∀ b∈feet kk,b<w.heap.size:=fun b hb=>by
 obtain ⟨y,hy,hb⟩:=feet_mem.1 hb
 exact Sits.lt y ((yyQ _ _).1 h y hy) b hb
def New (n:Nat) (x:A):Prop:=x.foot.Nodup∧∀ b∈x.foot,n≤b
def NewL (n:Nat) (kk:List A):Prop:=(feet kk).Nodup∧∀ b∈feet kk,n≤b
theorem New.mono {n n':Nat} {x:A} (h:New n x) (hn:n'≤n):New n' x:=⟨h.1,fun b hb=>Nat.le_trans hn (h.2 b hb)⟩
theorem NewL.mono {n n':Nat} {x:List A} (h:NewL n x) (hn:n'≤n):NewL n' x:=⟨h.1,fun b hb=>Nat.le_trans hn (h.2 b hb)⟩
theorem erases_get {kk:List A} {i:Nat} {t:T} (h:(xmQ kk)[i]?=some t):∃ x,kk[i]?=some x∧x.erase=t:=by
 induction kk generalizing i with
 | nil=>simp [xmQ] at h
 | cons x r ih =>
  cases i with
  | zero=>simp [xmQ] at h;exact ⟨x,rfl,h⟩
  | succ i=>simp [xmQ] at h;obtain ⟨y,h1,h2⟩:=ih h;exact ⟨y,by simpa using h1,h2⟩
theorem cell_in {w:World} {b i E:Nat} {cs:Array Value} {v:Value} (h:w.heap[b]?=some (.cells cs E (0,0))) (hv:cs[i]?=some v):w.cell? ⟨b,i,none⟩=some v:=by
 rw [Lib.cell_of_heap h];exact hv
def A.at:A→Option Addr
 | .node _ _ _ a _ _=>a
def A.kids:A→List A
 | .node _ _ _ _ _ kk=>kk
theorem Sits.lies {w:World} {lo:Nat} (x:A):Sits w x→(∀ b∈x.foot,lo≤b)→Kids w lo x.at (xmQ x.kids):=by
 refine A.induct (P:=fun x=>Sits w x→(∀ b∈x.foot,lo≤b)→Kids w lo x.at (xmQ x.kids)) ?_ x
 intro k s m a c kk ih h hlo
 simp only [Sits] at h
 simp only [A.foot,List.mem_append] at hlo
 obtain ⟨hs,hn,hb,hl⟩:=h
 rcases hb with rfl | ⟨b,cs,rfl,h1,h2⟩
 ·exact .inl rfl
 ·by_cases e:kk.length=0
  ·have:kk=[]:=List.eq_nil_of_length_eq_zero e
   subst this
   exact .inl rfl
  ·rw [if_neg e] at hlo
   refine .inr ⟨b,0,rfl,hlo b (.inl (by simp [zVQ])),LiesL.of fun i t ht=>?_⟩
   obtain ⟨y,hy,rfl⟩:=erases_get ht
   have hm:=List.mem_of_getElem? hy
   have hsy:=(yyQ _ _).1 hl y hm
   have hk:=ih y hm hsy (fun b hb=>hlo b (.inr (feet_mem.2 ⟨y,hm,hb⟩)))
   obtain ⟨k',s',m',a',c',q⟩:=y
   obtain ⟨g0,g1,g2,g3⟩:=cellsL_get hy
   simp only [Sits] at hsy
   simp only [A.erase]
   unfold Lies
   rw [Nat.zero_add]
   refine ⟨cell_in h1 (h2 _ _ g0),cell_in h1 (h2 _ _ g1),cell_in h1 (h2 _ _ g2),hsy.1,by rw [xzQ];exact hsy.2.1,a',c',by rw [xzQ];exact cell_in h1 (h2 _ _ g3),hk⟩
end Go.Proofs.YtocbgbkdlfkjjaaGreatDoor
namespace Go.Proofs.YtocbgbkdlfkjjaaGreatDoor
open Go.RowKit
open Pl
theorem str_eq (a b:ByteArray):(a.toList == b.toList)=decide (a=b):=by
 rw [Bool.eq_iff_iff,beq_iff_eq,decide_eq_true_eq,Lib.toList_data,Lib.toList_data]
 constructor
 ·intro h
  cases a
  cases b
  simpa using h
 ·rintro rfl
  rfl
abbrev Step (rb:Nat) (w w':World):Prop:=w.grownBy w' (some rb)
theorem Step.refl (rb:Nat) (w:World):Step rb w w:=World.grownBy.refl _ _
theorem Step.trans {rb:Nat} {a b c:World} (h:Step rb a b) (k:Step rb b c):Step rb a c :=
 ⟨k.os.trans h.os,k.tape.trans h.tape,k.output.trans h.output,Nat.le_trans h.size k.size,fun i hi hn=>(k.block i (Nat.lt_of_lt_of_le hi h.size) hn).trans (h.block i hi hn)⟩
theorem Step.at {rb:Nat} {a b:World} (h:Step rb a b) {k:Nat} {o:Obj} (hk:a.heap[k]?=some o) (hne:k≠rb):b.heap[k]?=some o :=
 (h.block k (Array.getElem?_eq_some_iff.1 hk).1 (by simpa using hne)).trans hk
theorem Step.below {rb:Nat} {a b:World} (h:Step rb a b):rb<a.heap.size→Below rb a b:=fun hr =>
 ⟨h.os,h.tape,h.output,h.size,fun k hk=>h.block k (by omega) (by simp;omega)⟩
theorem Step.drew {rb:Nat} {a b:World} (h:Step rb a b):Step rb a b.drew:=⟨h.os,h.tape,h.output,h.size,h.block⟩
theorem Step.drewN {rb:Nat} {a b:World} (h:Step rb a b) (n:Nat):Step rb a (b.drewN n):=⟨h.os,h.tape,h.output,h.size,h.block⟩
theorem Step.alloc {rb:Nat} {a b:World} (h:Step rb a b) (o:Obj):Step rb a (b.alloc o) :=
 h.trans ⟨rfl,rfl,rfl,by simp,fun k hk _=>Lib.alloc_old _ _ _ hk⟩
theorem Step.setCell {rb : Nat} {a b : World} (h:Step rb a b) {p:Addr} (hp:a.heap.size≤p.block∨p.block=rb) (u:Value):Step rb a (b.setCell p u) :=
 ⟨h.os, h.tape, h.output, by simp only [World.setCell,Array.size_modify];exact h.size,fun k hk hn=>by
  rw [Below.heap_setCell _ _ _ _ (by rcases hp with hp | hp
                                     ·omega
                                     ·intro e;exact hn (by rw [e,hp]))]
  exact h.block k hk hn⟩
theorem Step.sits {rb:Nat} {a b:World} (h:Step rb a b) {x:A} (hs:Sits a x) (hne:∀ q∈x.foot,q≠rb):Sits b x :=
 Sits.stay x (fun q hq=>h.block q (Sits.lt x hs q hq) (by simpa using hne q hq)) hs
theorem Step.sitsL {rb:Nat} {a b:World} (h:Step rb a b) {x:List A} (hs:SitsL a x) (hne:∀ q∈feet x,q≠rb):SitsL b x :=
 hs.stay (fun q hq=>h.block q (SitsL.lt hs q hq) (by simpa using hne q hq))
structure Rd (w:World) (rb:Nat) (a:Option Addr) (cap:Nat) (ws:List W3) (i sz:Nat):Prop where
 blk:w.heap[rb]?=some (.cells #[.slice a ws.length cap,.int .i64 i,.int .i64 sz] 62 (0,0))
 wds:ws=[]∨∃ g,a=some ⟨g,0,none⟩∧g<rb∧LiesW w g 0 ws
 few:ws.length≤1500
theorem Rd.lt {w:World} {rb:Nat} {a:Option Addr} {cap:Nat} {ws:List W3} {i sz:Nat} (h:Rd w rb a cap ws i sz):rb<w.heap.size:=(Array.getElem?_eq_some_iff.1 h.blk).1
theorem LiesW.keep {w w':World} {g:Nat} {ws:List W3} (h:LiesW w g 0 ws) (hb:ws=[]∨w'.heap[g]?=w.heap[g]?):LiesW w' g 0 ws:=fun i x hx=>by
 rcases hb with rfl | hb
 ·simp at hx
 ·obtain ⟨h0,h1,h2⟩:=h i x hx
  have e:∀ o,w'.cell? ⟨g,o,none⟩=w.cell? ⟨g,o,none⟩:=fun o=>World.cell?_of_block (w:=w) (a:=⟨g,o,none⟩) hb
  exact ⟨(e _).trans h0,(e _).trans h1,(e _).trans h2⟩
theorem Rd.of {w w':World} {rb:Nat} {a:Option Addr} {cap:Nat} {ws:List W3} {i j sz:Nat} (h:Rd w rb a cap ws i sz) (hs:Step rb w w')
    (hb:w'.heap[rb]?=some (.cells #[.slice a ws.length cap,.int .i64 j,.int .i64 sz] 62 (0,0))):Rd w' rb a cap ws j sz:=by
 refine ⟨hb,?_,h.few⟩
 rcases h.wds with h1 | ⟨g,h1,h2,h3⟩
 ·exact .inl h1
 ·exact .inr ⟨g,h1,h2,h3.keep (.inr (hs.block g (by have:=h.lt;omega) (by simp;omega)))⟩
theorem Rd.keep {w w':World} {rb:Nat} {a:Option Addr} {cap:Nat} {ws:List W3} {i sz:Nat} (h:Rd w rb a cap ws i sz) (hb:Below (rb+1) w w'):Rd w' rb a cap ws i sz:=by
 refine ⟨(hb.block rb (by omega)).trans h.blk,?_,h.few⟩
 rcases h.wds with h1 | ⟨g,h1,h2,h3⟩
 ·exact .inl h1
 ·exact .inr ⟨g,h1,h2,h3.keep (.inr (hb.block g (by omega)))⟩
theorem Rd.alloc {w:World} {rb:Nat} {a:Option Addr} {cap:Nat} {ws:List W3} {i sz:Nat} (h:Rd w rb a cap ws i sz) (o:Obj):Rd (w.alloc o) rb a cap ws i sz :=
 h.keep ((Below.refl _ _).alloc h.lt o)
theorem Rd.setCell {w:World} {rb:Nat} {a:Option Addr} {cap:Nat} {ws:List W3} {i sz:Nat} (h:Rd w rb a cap ws i sz) {p:Addr} (hp:rb<p.block) (u:Value):Rd (w.setCell p u) rb a cap ws i sz :=
 h.keep ((Below.refl _ _).setCell hp u)
theorem Rd.cells {w:World} {rb:Nat} {a:Option Addr} {cap:Nat} {ws:List W3} {i sz:Nat} (h:Rd w rb a cap ws i sz) :
    w.cell? ⟨rb,0,none⟩=some (.slice a ws.length cap)∧w.cell? ⟨rb,1,none⟩=some (.int .i64 i)∧w.cell? ⟨rb,2,none⟩=some (.int .i64 sz)∧w.frozen? ⟨rb,1,none⟩=false :=
 ⟨by rw [Lib.cell_of_heap h.blk];rfl,by rw [Lib.cell_of_heap h.blk];rfl,by rw [Lib.cell_of_heap h.blk];rfl,Lib.frozen_of_heap h.blk 1⟩
theorem Rd.word {w:World} {rb:Nat} {a:Option Addr} {cap:Nat} {ws:List W3} {i sz:Nat} (h:Rd w rb a cap ws i sz) {j:Nat} {x:W3} (hx:ws[j]?=some x) :
    ∃ g,a=some ⟨g,0,none⟩∧w.cell? ⟨g,j * 3,none⟩=some (.int .i64 x.k)∧w.cell? ⟨g,j * 3+1,none⟩=some (.string x.s)∧w.cell? ⟨g,j * 3+2,none⟩=some (.int .i64 x.a):=by
 rcases h.wds with h1 | ⟨g,h1,h2,h3⟩
 ·subst h1;simp at hx
 ·obtain ⟨h4,h5,h6⟩:=h3 j x hx
  rw [Nat.zero_add] at h4 h5 h6
  exact ⟨g,h1,h4,h5,h6⟩
theorem Rd.next {w:World} {rb:Nat} {a:Option Addr} {cap:Nat} {ws:List W3} {i sz:Nat} (h:Rd w rb a cap ws i sz) (j:Nat):Rd (w.setCell ⟨rb,1,none⟩ (.int .i64 j)) rb a cap ws j sz:=by
 refine h.of ((Step.refl rb w).setCell (.inr rfl) _) ?_
 rw [heap_setCell_same w rb 1 _ 62 _ h.blk];rfl
theorem Rd.drewN {w:World} {rb:Nat} {a:Option Addr} {cap:Nat} {ws:List W3} {i sz:Nat} (h:Rd w rb a cap ws i sz) (n:Nat):Rd (w.drewN n) rb a cap ws i sz :=
 h.keep ⟨rfl,rfl,rfl,Nat.le_refl _,fun _ _=>rfl⟩
end Go.Proofs.YtocbgbkdlfkjjaaGreatDoor
namespace Go.Proofs.YtocbgbkdlfkjjaaGreatDoor
open Go.Shelf
end Go.Proofs.YtocbgbkdlfkjjaaGreatDoor
namespace Go.Proofs.YtocbgbkdlfkjjaaGreatDoor
open Go.RowKit
open Pl
theorem num_short {s:ByteArray} (h:numB s=true):s.size≤7:=by
 have hp:numP s:=by simpa [numB] using h
 rcases Nat.lt_or_ge 7 s.size with q | q
 ·have:=val_long s s.size q hp.2.1 (hp.2.2.1 (by omega))
  have:=hp.2.2.2
  omega
 ·exact q
theorem kind_num {s:ByteArray} (h:xAQ s=2):numB s=true:=by
 unfold xAQ at h
 split at h
 ·cases h
 ·split at h
  ·cases h
  ·split at h
   ·assumption
   ·split at h <;> cases h
theorem word_num {ws:List W3} (hw:WsOk ws) {i:Nat} (h:xTQ ws i=2):numB (xPQ ws i)=true:=by
 have hi:=kindW_lt h (by decide)
 unfold xTQ at h
 unfold xPQ
 rw [List.getElem?_eq_getElem hi] at h ⊢
 simp only at h ⊢
 exact kind_num (by rw [(hw _ (List.getElem_mem hi)).1,h])
theorem Step.of_below {rb:Nat} {a b:World} (h:Below a.heap.size a b):Step rb a b:=grown_below h
theorem xSQ {ws:List W3} {i:Nat} {s t:ByteArray} (h:isW ws i s=true) (hne:s≠t):isW ws i t=false:=by
 cases q:isW ws i t with
 | false=>rfl
 | true=>exact absurd ((isW_text h).symm.trans (isW_text q)) hne
theorem not_num {s:ByteArray} (h:digI (byt s 0)=false):xAQ s≠2:=fun e=>by
 have hn:=kind_num e
 have hp:numP s:=by simpa [numB] using hn
 have:=hp.2.1 0 (by have:=hp.1;omega)
 rw [h] at this;cases this
theorem kind_name {s:ByteArray} (h:xAQ s=1):xBQ s=true:=by
 unfold xAQ at h
 split at h
 ·cases h
 ·split at h
  ·assumption
  ·split at h
   ·cases h
   ·split at h <;> cases h
theorem not_name {s:ByteArray} (h:lowI (byt s 0)=false):xAQ s≠1:=fun e=>by
 have hn:=kind_name e
 have hp:zXQ s:=by simpa [xBQ] using hn
 rcases hp.2.2.2 0 (by have:=hp.1;omega) with q | q
 ·rw [h] at q;cases q
 ·exact q.1 rfl
theorem yKQ {s:ByteArray} (h:keyB s=true):xAQ s=4:=by unfold xAQ;rw [h];rfl
theorem sr_neg {ws:List W3} {f i:Nat} {x:T} {st':St2} (h1:isW ws i ⟨#[45]⟩=true) (h:SR (mOne ws f (i+1)) (i+1,false) x st'):SR (mOne ws (f+1) i) (i,false) (.node 5 nil_ 0 [x]) st':=by
 simp only [mOne]
 rw [if_pos h1]
 generalize mOne ws f (i+1)=r at h ⊢
 cases r with
 | no p=>rw [h.no];exact SR.mk_no _ _ _
 | ok t j=>rw [h.ok.1,h.ok.2];exact SR.mk_ok _ _ _
theorem sr_par {ws:List W3} {f i:Nat} {x:T} {st':St2} (h1:isW ws i ⟨#[40]⟩=true) (h:SR (x0Q ws f (i+1)) (i+1,false) x st'):SR (mOne ws (f+1) i) (i,false) x (nd ws st' ⟨#[41]⟩):=by
 simp only [mOne]
 rw [if_neg (by rw [xSQ h1 (by decide)];decide),if_pos h1]
 generalize x0Q ws f (i+1)=r at h ⊢
 cases r with
 | no p=>rw [h.no,yaQ];exact SR.mk_no _ _ _
 | ok t j =>
  rw [h.ok.1,h.ok.2,ymQ]
  simp only [Res.then_,want]
  split
  ·exact SR.mk_ok _ _ _
  ·exact SR.mk_no _ _ _
theorem sr_len {ws:List W3} {f i:Nat} (h1:isW ws i ⟨#[108,101,110]⟩=true) :
    SR (mOne ws (f+1) i) (i,false) (.node 4 (nmT ws (nd ws (i+1,false) ⟨#[40]⟩)) 0 []) (nd ws (nmS ws (nd ws (i+1,false) ⟨#[40]⟩)) ⟨#[41]⟩):=by
 simp only [mOne]
 rw [if_neg (by rw [xSQ h1 (by decide)];decide),if_neg (by rw [xSQ h1 (by decide)];decide),if_pos h1,ymQ]
 simp only [want,yQQ]
 by_cases h2:isW ws (i+1) ⟨#[40]⟩=true
 ·rw [if_pos h2,if_pos h2]
  by_cases h3:xTQ ws (i+2)=1
  ·have e1:nmS ws (i+1+1,false)=(i+3,false):=by simp [nmS,nmB,h3]
   have e2:nmT ws (i+1+1,false)=xPQ ws (i+2):=by simp [nmT,nmB,h3]
   rw [if_pos h3,e1,e2,ymQ]
   by_cases h4:isW ws (i+3) ⟨#[41]⟩=true
   ·rw [if_pos h4,if_pos h4];exact SR.mk_ok _ _ _
   ·rw [if_neg h4,if_neg h4];exact SR.mk_no _ _ _
  ·have e1:nmS ws (i+1+1,false)=(i+2,true):=by simp [nmS,nmB,h3]
   rw [if_neg h3,e1,yaQ];exact SR.mk_no _ _ _
 ·rw [if_neg h2,if_neg h2]
  have e1:nmS ws (i+1,true)=(i+1,true):=by simp [nmS,nmB]
  rw [e1,yaQ];exact SR.mk_no _ _ _
theorem zsQ {ws:List W3} (hw:WsOk ws) {i:Nat} (h:xTQ ws i=2) {s:ByteArray} (hs:digI (byt s 0)=false):isW ws i s=false:=by
 cases q:isW ws i s with
 | false=>rfl
 | true=>exact absurd ((isW_kind hw q).symm.trans h) (not_num hs)
theorem name_words {ws:List W3} (hw:WsOk ws) {i:Nat} (h:xTQ ws i=1) {s:ByteArray} (hs:xAQ s≠1):isW ws i s=false:=by
 cases q:isW ws i s with
 | false=>rfl
 | true=>exact absurd ((isW_kind hw q).symm.trans h) hs
theorem sr_num {ws:List W3} (hw:WsOk ws) {f i:Nat} (h1:xTQ ws i=2):SR (mOne ws (f+1) i) (i,false) (.node 1 nil_ (numV (xPQ ws i)) []) (i+1,false):=by
 simp only [mOne]
 rw [if_neg (by rw [zsQ hw h1 (by decide)];decide),if_neg (by rw [zsQ hw h1 (by decide)];decide),if_neg (by rw [zsQ hw h1 (by decide)];decide),if_pos h1]
 exact SR.mk_ok _ _ _
theorem sr_cell {ws:List W3} {f i:Nat} {x:T} {st':St2} (n0:isW ws i ⟨#[45]⟩=false) (n1:isW ws i ⟨#[40]⟩=false) (n2:isW ws i ⟨#[108,101,110]⟩=false) (n3:xTQ ws i≠2) (h1:xTQ ws i=1) (h2:isW ws (i+1) ⟨#[91]⟩=true)
    (h:SR (x0Q ws f (i+2)) (i+2,false) x st'):SR (mOne ws (f+1) i) (i,false) (.node 3 (xPQ ws i) 0 [x]) (nd ws st' ⟨#[93]⟩):=by
 simp only [mOne]
 rw [if_neg (by rw [n0];decide),if_neg (by rw [n1];decide),if_neg (by rw [n2];decide),if_neg n3]
 simp only [yQQ]
 rw [if_pos h1,if_pos h2]
 generalize x0Q ws f (i+2)=r at h ⊢
 cases r with
 | no p=>rw [h.no,yaQ];exact SR.mk_no _ _ _
 | ok t j =>
   rw [h.ok.1,h.ok.2,ymQ]
   simp only [Res.then_,want]
   split
   ·exact SR.mk_ok _ _ _
   ·exact SR.mk_no _ _ _
theorem sr_var {ws:List W3} {f i:Nat} (n0:isW ws i ⟨#[45]⟩=false) (n1:isW ws i ⟨#[40]⟩=false) (n2:isW ws i ⟨#[108,101,110]⟩=false) (n3:xTQ ws i≠2) (h2:tk ws (nmS ws (i,false)) ⟨#[91]⟩=false) :
    SR (mOne ws (f+1) i) (i,false) (.node 2 (nmT ws (i,false)) 0 []) (nmS ws (i,false)):=by
 simp only [mOne]
 rw [if_neg (by rw [n0];decide),if_neg (by rw [n1];decide),if_neg (by rw [n2];decide),if_neg n3]
 simp only [yQQ]
 by_cases h1:xTQ ws i=1
 ·have e1:nmS ws (i,false)=(i+1,false):=by simp [nmS,nmB,h1]
  have e2:nmT ws (i,false)=xPQ ws i:=by simp [nmT,nmB,h1]
  rw [e1] at h2
  have h3:isW ws (i+1) ⟨#[91]⟩=false:=by simpa [tk] using h2
  rw [if_pos h1,e1,e2,if_neg (by rw [h3];decide)]
  exact SR.mk_ok _ _ _
 ·have e1:nmS ws (i,false)=(i,true):=by simp [nmS,nmB,h1]
  rw [if_neg h1,e1];exact SR.mk_no _ _ _
end Go.Proofs.YtocbgbkdlfkjjaaGreatDoor
namespace Go.Proofs.YtocbgbkdlfkjjaaGreatDoor
open Go.RowKit
theorem Sits.node {w':World} {xs:List A} {k m:Int} {s:ByteArray} {b c:Nat} {cs:Array Value} (hs:s.size≤maxLen) (hn:xs.length≤maxLen) (hl:SitsL w' xs)
    (hb:w'.heap[b]?=some (.cells cs 31 (0,0))) (hcs:∀ (i:Nat) (v:Value),(xqQ xs)[i]?=some v→cs[i]?=some v):Sits w' (.node k s m (some ⟨b,0,none⟩) c xs):=by
 simp only [Sits]
 exact ⟨hs,hn,.inr ⟨b,cs,rfl,hb,hcs⟩,hl⟩
theorem Sits.leaf (w:World) {k m:Int} {s:ByteArray} (a:Option Addr) (c:Nat) (hs:s.size≤maxLen):Sits w (.node k s m a c []):=by
 simp only [Sits,SitsL,List.length_nil]
 exact ⟨hs,Nat.zero_le _,.inl rfl,trivial⟩
theorem New.leaf (n:Nat) (k m:Int) (s:ByteArray) (a:Option Addr) (c:Nat):New n (.node k s m a c []):=by
 simp [New,A.foot,feet]
theorem New.node {n b c:Nat} {xs:List A} {k m:Int} {s:ByteArray} (h:NewL n xs) (hb:n≤b) (hno:b ∉ feet xs):New n (.node k s m (some ⟨b,0,none⟩) c xs):=by
 unfold New
 simp only [A.foot]
 by_cases e:xs.length=0
 ·rw [if_pos e,List.nil_append]
  exact h
 ·rw [if_neg e]
  simp only [zVQ]
  refine ⟨List.nodup_cons.2 ⟨hno,h.1⟩,fun q hq=>?_⟩
  rcases List.mem_cons.1 hq with rfl | hq
  ·exact hb
  ·exact h.2 q hq
theorem NewL.one {n:Nat} {x:A} (h:New n x):NewL n [x]:=by
 unfold NewL
 simp only [feet,List.append_nil]
 exact h
theorem NewL.snoc {n n1:Nat} {xs:List A} {x:A} (h:NewL n xs) (hlt:∀ b∈feet xs,b<n1) (hx:New n1 x) (hn:n≤n1):NewL n (xs++[x]):=by
 unfold NewL
 rw [yeQ]
 simp only [feet,List.append_nil]
 refine ⟨List.nodup_append.2 ⟨h.1,hx.1,fun p hp q hq e=>?_⟩,fun b hb=>?_⟩
 ·have h1:=hlt p hp
  have h2:=hx.2 q hq
  omega
 ·rcases List.mem_append.1 hb with hb | hb
  ·exact h.2 b hb
  ·exact Nat.le_trans hn (hx.2 b hb)
theorem x1Q {w:World} {x:A} (h:Sits w x):SitsL w [x]:=⟨h,trivial⟩
theorem zDQ {w:World} {xs:List A} {x:A} (h:SitsL w xs) (hx:Sits w x):SitsL w (xs++[x]) :=
 (yyQ _ _).2 fun y hy=>by
  rcases List.mem_append.1 hy with hy | hy
  ·exact (yyQ _ _).1 h y hy
  ·rw [List.mem_singleton.1 hy];exact hx
theorem zAQ (x:A):feet [x]=x.foot:=by simp [feet]
theorem erase1 (k m:Int) (s:ByteArray) (a:Option Addr) (c:Nat) (x:A):(A.node k s m a c [x]).erase=.node k s m [x.erase]:=by simp only [A.erase,xmQ]
theorem erase2 (k m:Int) (s:ByteArray) (a:Option Addr) (c:Nat) (x y:A):(A.node k s m a c [x,y]).erase=.node k s m [x.erase,y.erase]:=by simp only [A.erase,xmQ]
theorem erase3 (k m:Int) (s:ByteArray) (a:Option Addr) (c:Nat) (x y z:A):(A.node k s m a c [x,y,z]).erase=.node k s m [x.erase,y.erase,z.erase]:=by simp only [A.erase,xmQ]
theorem erase0 (k m:Int) (s:ByteArray) (a:Option Addr) (c:Nat):(A.node k s m a c []).erase=.node k s m []:=by simp only [A.erase,xmQ]
theorem xcQ {w:World} {p:Nat} {v0 v1 v2 v3:Value} (h:w.heap[p]?=some (.cells #[v0,v1,v2,v3] 31 (0,0))) :
    w.cell? ⟨p,0,none⟩=some v0∧w.cell? ⟨p,1,none⟩=some v1∧w.cell? ⟨p,2,none⟩=some v2∧w.cell? ⟨p,3,none⟩=some v3 ∧
    w.frozen? ⟨p,0,none⟩=false∧w.frozen? ⟨p,1,none⟩=false∧w.frozen? ⟨p,2,none⟩=false∧w.frozen? ⟨p,3,none⟩=false :=
 ⟨by rw [Lib.cell_of_heap h];rfl,by rw [Lib.cell_of_heap h];rfl,by rw [Lib.cell_of_heap h];rfl,by rw [Lib.cell_of_heap h];rfl,Lib.frozen_of_heap h 0,Lib.frozen_of_heap h 1,Lib.frozen_of_heap h 2,Lib.frozen_of_heap h 3⟩
@[reducible] def put4 (w:World) (p:Nat) (v0 v1 v2 v3:Value):World:=(((w.setCell ⟨p,0,none⟩ v0).setCell ⟨p,1,none⟩ v1).setCell ⟨p,2,none⟩ v2).setCell ⟨p,3,none⟩ v3
theorem zLQ {w:World} {p:Nat} {u0 u1 u2 u3:Value} (h:w.heap[p]?=some (.cells #[u0,u1,u2,u3] 31 (0,0))) (v0 v1 v2 v3:Value):(put4 w p v0 v1 v2 v3).heap[p]?=some (.cells #[v0,v1,v2,v3] 31 (0,0)):=by
 unfold put4
 rw [heap_setCell_same _ p 3 _ 31 _ (heap_setCell_same _ p 2 _ 31 _ (heap_setCell_same _ p 1 _ 31 _ (heap_setCell_same _ p 0 _ 31 _ h)))]
 rfl
theorem xLQ {w:World} {p k:Nat} (v0 v1 v2 v3:Value) (h:k≠p):(put4 w p v0 v1 v2 v3).heap[k]?=w.heap[k]?:=by
 unfold put4
 rw [Below.heap_setCell _ _ _ _ h,Below.heap_setCell _ _ _ _ h,Below.heap_setCell _ _ _ _ h,Below.heap_setCell _ _ _ _ h]
theorem ySQ (w:World) (p:Nat) (v0 v1 v2 v3:Value):(put4 w p v0 v1 v2 v3).heap.size=w.heap.size:=by
 simp [put4,World.setCell]
theorem yzQ {rb:Nat} {a b:World} (h:Step rb a b) {p:Nat} (hp:a.heap.size≤p) (v0 v1 v2 v3:Value):Step rb a (put4 b p v0 v1 v2 v3) :=
 (((h.setCell (p:=⟨p,0,none⟩) (.inl hp) _).setCell (p:=⟨p,1,none⟩) (.inl hp) _).setCell (p:=⟨p,2,none⟩) (.inl hp) _).setCell (p:=⟨p,3,none⟩) (.inl hp) _
theorem xhQ {w:World} {p:Nat} {u0 u1 u2 u3:Value} (h:w.heap[p]?=some (.cells #[u0,u1,u2,u3] 31 (0,0))) (v0 v1 v2 v3:Value) :
    (put4 w p v0 v1 v2 v3).cell? ⟨p,0,none⟩=some v0∧(put4 w p v0 v1 v2 v3).cell? ⟨p,1,none⟩=some v1∧(put4 w p v0 v1 v2 v3).cell? ⟨p,2,none⟩=some v2∧(put4 w p v0 v1 v2 v3).cell? ⟨p,3,none⟩=some v3:=by
 obtain ⟨a,b,c,d,_⟩:=xcQ (zLQ h v0 v1 v2 v3)
 exact ⟨a,b,c,d⟩
end Go.Proofs.YtocbgbkdlfkjjaaGreatDoor
