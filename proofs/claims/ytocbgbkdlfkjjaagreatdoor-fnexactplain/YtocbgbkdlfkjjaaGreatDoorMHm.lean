/- WORDS IN MEMORY: what it means that a slice holds a list of words. -/
import Derived.Test.YtocbgbkdlfkjjaaGreatDoorMHb
import Derived.Test.YtocbgbkdlfkjjaaGreatDoorMHsh
import Derived.Deep.AppendLies
import Derived.Lib.IndexLaws
set_option maxRecDepth 100000
set_option maxHeartbeats 2000000
namespace Go.Proofs.YtocbgbkdlfkjjaaGreatDoor
open Go.RowKit
open Pl
structure W3 where
 k:Int
 s:ByteArray
 a:Int
def LiesW (w:World) (b off:Nat) (ws:List W3):Prop:=∀ i x,ws[i]?=some x →
 w.cell? ⟨b,off+i * 3,none⟩=some (.int .i64 x.k)∧w.cell? ⟨b,off+i * 3+1,none⟩=some (.string x.s)∧w.cell? ⟨b,off+i * 3+2,none⟩=some (.int .i64 x.a)
theorem LiesW.below {w w':World} {b off:Nat} {ws:List W3} (h:LiesW w b off ws) (hb:Below w.heap.size w w'):LiesW w' b off ws:=fun i x hx=>by
 obtain ⟨h0,h1,h2⟩:=h i x hx
 have hlt:=World.block_lt_of_cell? w _ h0
 exact ⟨(hb.cell (p:=⟨b,off+i * 3,none⟩) hlt).trans h0,(hb.cell (p:=⟨b,off+i * 3+1,none⟩) hlt).trans h1,(hb.cell (p:=⟨b,off+i * 3+2,none⟩) hlt).trans h2⟩
def flat (ws:List W3):List Value:=ws.flatMap fun x=>[.int .i64 x.k,.string x.s,.int .i64 x.a]
theorem flat_length (ws:List W3):(flat ws).length=ws.length * 3:=by
 induction ws with
 | nil=>rfl
 | cons x ws ih =>
  have:flat (x :: ws)=[.int .i64 x.k,.string x.s,.int .i64 x.a]++flat ws:=rfl
  rw [this]
  simp only [List.length_append,List.length_cons,List.length_nil,ih]
  omega
theorem flat_append (a b:List W3):flat (a++b)=flat a++flat b:=by simp [flat]
theorem flat_get {ws:List W3} {k:Nat} {x:W3} (hx:ws[k]?=some x):(flat ws)[k * 3]?=some (.int .i64 x.k)∧(flat ws)[k * 3+1]?=some (.string x.s)∧(flat ws)[k * 3+2]?=some (.int .i64 x.a):=by
 obtain ⟨hk,hx'⟩:=List.getElem?_eq_some_iff.1 hx
 have e:ws=ws.take k++x :: ws.drop (k+1):=by
  rw [← hx',← List.drop_eq_getElem_cons hk,List.take_append_drop]
 have hl:(flat (ws.take k)).length=k * 3:=by rw [flat_length];simp;omega
 have e2:flat ws=flat (ws.take k)++(.int .i64 x.k :: .string x.s :: .int .i64 x.a :: flat (ws.drop (k+1))):=by
  conv=>lhs;rw [e]
  rw [flat_append];rfl
 rw [e2]
 refine ⟨?_,?_,?_⟩
 ·rw [List.getElem?_append_right (by omega),hl];simp
 ·rw [List.getElem?_append_right (by omega),hl,show k * 3+1 - k * 3=1 by omega];rfl
 ·rw [List.getElem?_append_right (by omega),hl,show k * 3+2 - k * 3=2 by omega];rfl
theorem lies_of_row {w:World} {base e g cap:Nat} {ws:List W3} (h:w.ownsRow base e 3 (.slice (some ⟨g,0,none⟩) ws.length cap) ws.length (flat ws)):LiesW w g 0 ws:=fun i x hx=>by
 obtain ⟨hi,_⟩:=List.getElem?_eq_some_iff.1 hx
 obtain ⟨f0,f1,f2⟩:=flat_get hx
 rw [Nat.zero_add]
 exact ⟨(h.cellAt (i * 3) (by omega)).trans f0,(h.cellAt (i * 3+1) (by omega)).trans f1,(h.cellAt (i * 3+2) (by omega)).trans f2⟩
theorem Tryz.info130:(Tryz.prog.info? 130).map (fun i=>(i.zero,i.size,i.bytes))=some (some (.agg #[.int .i64 0,.string ByteArray.empty,.int .i64 0]),3,32):=by kernel_rfl
theorem xRQ {a b:ByteArray} (h:a=b):Ending.returned (.string a)=.returned (.string b):=by rw [h]
def firstF (p:Nat→Bool) (n:Nat):Nat→Nat→Nat
 | 0,at_=>at_
 | f+1,at_=>if at_<n then (if p at_ then at_ else firstF p n f (at_+1)) else at_
def first (p:Nat→Bool) (n at_:Nat):Nat:=firstF p n (n - at_) at_
def IsFirst (p:Nat→Bool) (n at_ e:Nat):Prop:=at_≤e∧e≤n∧(∀ j,at_≤j→j<e→p j=false)∧(e=n∨p e=true)
theorem firstF_is (p:Nat→Bool) (n:Nat) (f at_:Nat) (h:at_≤n) (hf:n - at_≤f):IsFirst p n at_ (firstF p n f at_):=by
 induction f generalizing at_ with
 | zero => have:at_=n:=by omega
           subst this;exact ⟨Nat.le_refl _,Nat.le_refl _,fun j h1 h2=>by simp [firstF] at h2;omega,.inl rfl⟩
 | succ f ih =>
   simp only [firstF]
   by_cases h1:at_<n
   ·rw [if_pos h1]
    by_cases h2:p at_=true
    ·rw [if_pos h2]
     exact ⟨Nat.le_refl _,h,fun j a b=>by omega,.inr h2⟩
    ·rw [if_neg h2]
     obtain ⟨a,b,c,d⟩:=ih (at_+1) (by omega) (by omega)
     refine ⟨by omega,b,fun j hj hj'=>?_,d⟩
     by_cases e:j=at_
     ·subst e;simpa using h2
     ·exact c j (by omega) hj'
   ·rw [if_neg h1]
    exact ⟨Nat.le_refl _,h,fun j a b=>by omega,.inl (by omega)⟩
theorem zzQ (p:Nat→Bool) (n at_:Nat) (h:at_≤n):IsFirst p n at_ (first p n at_):=firstF_is p n _ at_ h (Nat.le_refl _)
theorem zhQ {p:Nat→Bool} {n at_ e:Nat} (h:IsFirst p n at_ e):first p n at_=e:=by
 obtain ⟨a,b,c,d⟩:=h
 obtain ⟨a',b',c',d'⟩:=zzQ p n at_ (by omega)
 rcases Nat.lt_trichotomy (first p n at_) e with hlt | heq | hgt
 ·have:=c _ a' hlt
  rcases d' with h | h
  ·omega
  ·rw [h] at this;cases this
 ·exact heq
 ·have:=c' _ a hgt
  rcases d with h | h
  ·omega
  ·rw [h] at this;cases this
def xZQ (s:ByteArray) (k:Nat):Bool:=lowI (byt s k) || digI (byt s k)
def runE (s:ByteArray) (at_:Nat):Nat:=first (fun j=>!xZQ s j) s.size at_
def yIQ (s:ByteArray) (at_:Nat):Nat:=first (fun j=>byt s j == 10) s.size at_
def yPQ (s:ByteArray) (k:Nat):Bool:=byt s k == 32 || byt s k == 10
theorem noteE_gt {s:ByteArray} {at_:Nat} (h:at_<s.size) (h35:byt s at_=35):at_<yIQ s at_:=by
 obtain ⟨a,b,c,d⟩:=zzQ (fun j=>byt s j == 10) s.size at_ (by omega)
 rcases Nat.lt_or_ge at_ (yIQ s at_) with h1 | h1
 ·exact h1
 ·have e:yIQ s at_=at_:=by have:at_≤yIQ s at_:=a;omega
  have d':yIQ s at_=s.size∨(byt s (yIQ s at_) == 10)=true:=d
  rw [e,h35] at d'
  simp at d'
  omega
theorem noteE_le {s:ByteArray} {at_:Nat} (h:at_≤s.size):yIQ s at_≤s.size:=(zzQ _ _ _ h).2.1
def skipF (s:ByteArray):Nat→Nat→Nat
 | 0,at_=>at_
 | f+1,at_=>if at_<s.size then (if yPQ s at_ then skipF s f (at_+1) else if byt s at_=35 then skipF s f (yIQ s at_) else at_) else at_
def yoQ (s:ByteArray) (at_:Nat):Nat:=skipF s (s.size - at_) at_
theorem skipF_fuel (s:ByteArray) (f g at_:Nat) (hf:s.size - at_≤f) (hg:s.size - at_≤g):skipF s f at_=skipF s g at_:=by
 induction f generalizing g at_ with
 | zero =>
  cases g with
  | zero=>rfl
  | succ g=>simp only [skipF];rw [if_neg (by omega)]
 | succ f ih =>
  cases g with
  | zero=>simp only [skipF];rw [if_neg (by omega)]
  | succ g =>
   simp only [skipF]
   by_cases h:at_<s.size
   ·rw [if_pos h,if_pos h]
    by_cases hb:yPQ s at_=true
    ·rw [if_pos hb,if_pos hb];exact ih g _ (by omega) (by omega)
    ·rw [if_neg hb,if_neg hb]
     by_cases h35:byt s at_=35
     ·rw [if_pos h35,if_pos h35]
      have:=noteE_gt h h35
      exact ih g _ (by omega) (by omega)
     ·rw [if_neg h35,if_neg h35]
   ·rw [if_neg h,if_neg h]
theorem zCQ {s:ByteArray} {at_:Nat} (h:at_<s.size) (hb:yPQ s at_=true):yoQ s at_=yoQ s (at_+1):=by
 unfold yoQ
 obtain ⟨f,hf⟩:∃ f,s.size - at_=f+1:=⟨s.size - at_ - 1,by omega⟩
 rw [hf];simp only [skipF];rw [if_pos h,if_pos hb]
 exact skipF_fuel s _ _ _ (by omega) (by omega)
theorem skip_note {s:ByteArray} {at_:Nat} (h:at_<s.size) (h35:byt s at_=35):yoQ s at_=yoQ s (yIQ s at_):=by
 have hb:¬ yPQ s at_=true:=by unfold yPQ;rw [h35];decide
 unfold yoQ
 obtain ⟨f,hf⟩:∃ f,s.size - at_=f+1:=⟨s.size - at_ - 1,by omega⟩
 rw [hf];simp only [skipF];rw [if_pos h,if_neg hb,if_pos h35]
 have:=noteE_gt h h35
 exact skipF_fuel s _ _ _ (by omega) (by omega)
theorem skip_stop {s:ByteArray} {at_:Nat} (h:at_<s.size) (hb:yPQ s at_=false) (h35:byt s at_≠35):yoQ s at_=at_:=by
 unfold yoQ
 obtain ⟨f,hf⟩:∃ f,s.size - at_=f+1:=⟨s.size - at_ - 1,by omega⟩
 rw [hf];simp only [skipF];rw [if_pos h,if_neg (by simp [hb]),if_neg h35]
theorem skip_end {s:ByteArray} {at_:Nat} (h:¬ at_<s.size):yoQ s at_=at_:=by
 unfold yoQ
 rw [show s.size - at_=0 by omega];rfl
theorem skip_ge (s:ByteArray) (at_:Nat):at_≤yoQ s at_:=by
 unfold yoQ
 generalize hf:s.size - at_=f
 induction f using Nat.strongRecOn generalizing at_ with
 | _ f ih =>
  by_cases h:at_<s.size
  ·by_cases hb:yPQ s at_=true
   ·have e:=zCQ h hb
    unfold yoQ at e
    rw [← hf,e]
    have:=ih (s.size - (at_+1)) (by omega) (at_+1) rfl
    omega
   ·by_cases h35:byt s at_=35
    ·have e:=skip_note h h35
     have hg:=noteE_gt h h35
     unfold yoQ at e
     rw [← hf,e]
     have:=ih (s.size - yIQ s at_) (by omega) (yIQ s at_) rfl
     omega
    ·have e:=skip_stop h (by simpa using hb) h35
     unfold yoQ at e
     rw [← hf,e];exact Nat.le_refl _
  ·have e:=skip_end h
   unfold yoQ at e
   rw [← hf,e];exact Nat.le_refl _
theorem skip_le {s:ByteArray} {at_:Nat} (h:at_≤s.size):yoQ s at_≤s.size:=by
 generalize hf:s.size - at_=f
 induction f using Nat.strongRecOn generalizing at_ with
 | _ f ih =>
  by_cases h1:at_<s.size
  ·by_cases hb:yPQ s at_=true
   ·rw [zCQ h1 hb]
    exact ih (s.size - (at_+1)) (by omega) (by omega) rfl
   ·by_cases h35:byt s at_=35
    ·rw [skip_note h1 h35]
     have hg:=noteE_gt h1 h35
     exact ih (s.size - yIQ s at_) (by omega) (noteE_le h) rfl
    ·rw [skip_stop h1 (by simpa using hb) h35];exact h
  ·rw [skip_end h1];exact h
def endI (s:ByteArray) (at_:Nat):Nat:=if xZQ s at_ then runE s at_ else if at_+1<s.size∧ylQ (s.extract at_ (at_+2))=true then at_+2 else at_+1
theorem runE_gt {s:ByteArray} {at_:Nat} (h:at_<s.size) (ha:xZQ s at_=true):at_<runE s at_:=by
 obtain ⟨a,b,c,d⟩:=zzQ (fun j=>!xZQ s j) s.size at_ (by omega)
 rcases Nat.lt_or_ge at_ (runE s at_) with h1 | h1
 ·exact h1
 ·have e:runE s at_=at_:=by have:at_≤runE s at_:=a;omega
  have d':runE s at_=s.size∨(!xZQ s (runE s at_))=true:=d
  rw [e,ha] at d'
  simp at d'
  omega
theorem endI_gt {s:ByteArray} {at_:Nat} (h:at_<s.size):at_<endI s at_∧endI s at_≤s.size:=by
 unfold endI
 split
 ·rename_i ha
  exact ⟨runE_gt h ha,(zzQ _ _ _ (by omega)).2.1⟩
 ·split <;> omega
def scanF (s:ByteArray):Nat→Nat→List W3→List W3 × Int × Int
 | 0,_,acc=>(acc,0,0)
 | f + 1,at_,acc=>if at_<s.size then
     (if xAQ (s.extract at_ (endI s at_))=0 then ([],2,at_) else if acc.length=1500 then ([],3,at_) else
      scanF s f (yoQ s (endI s at_)) (acc++[⟨xAQ (s.extract at_ (endI s at_)),s.extract at_ (endI s at_),at_⟩]))
   else (acc,0,0)
def scanI (s:ByteArray) (at_:Nat) (acc:List W3):List W3 × Int × Int:=scanF s (s.size - at_) at_ acc
theorem scanF_fuel (s:ByteArray) (f g at_:Nat) (acc:List W3) (hf:s.size - at_≤f) (hg:s.size - at_≤g):scanF s f at_ acc=scanF s g at_ acc:=by
 induction f generalizing g at_ acc with
 | zero =>
  cases g with
  | zero=>rfl
  | succ g=>simp only [scanF];rw [if_neg (by omega)]
 | succ f ih =>
  cases g with
  | zero=>simp only [scanF];rw [if_neg (by omega)]
  | succ g =>
   simp only [scanF]
   by_cases h:at_<s.size
   ·rw [if_pos h,if_pos h]
    have h1:=endI_gt h
    have h2:=skip_ge s (endI s at_)
    rw [ih g _ _ (by omega) (by omega)]
   ·rw [if_neg h,if_neg h]
theorem scan_end {s:ByteArray} {at_:Nat} {acc:List W3} (h:¬ at_<s.size):scanI s at_ acc=(acc,0,0):=by
 unfold scanI
 rw [show s.size - at_=0 by omega];rfl
theorem scan_bad {s:ByteArray} {at_:Nat} {acc:List W3} (h:at_<s.size) (hk:xAQ (s.extract at_ (endI s at_))=0):scanI s at_ acc=([],2,(at_:Int)):=by
 unfold scanI
 obtain ⟨f,hf⟩:∃ f,s.size - at_=f+1:=⟨s.size - at_ - 1,by omega⟩
 rw [hf];simp only [scanF];rw [if_pos h,if_pos hk]
theorem scan_many {s:ByteArray} {at_:Nat} {acc:List W3} (h:at_<s.size) (hk:xAQ (s.extract at_ (endI s at_))≠0) (hm:acc.length=1500):scanI s at_ acc=([],3,(at_:Int)):=by
 unfold scanI
 obtain ⟨f,hf⟩:∃ f,s.size - at_=f+1:=⟨s.size - at_ - 1,by omega⟩
 rw [hf];simp only [scanF];rw [if_pos h,if_neg hk,if_pos hm]
theorem scan_go {s:ByteArray} {at_:Nat} {acc:List W3} (h:at_<s.size) (hk:xAQ (s.extract at_ (endI s at_))≠0) (hm:acc.length≠1500) :
    scanI s at_ acc=scanI s (yoQ s (endI s at_)) (acc++[⟨xAQ (s.extract at_ (endI s at_)),s.extract at_ (endI s at_),at_⟩]):=by
 have h1:=endI_gt h
 have h2:=skip_ge s (endI s at_)
 unfold scanI
 obtain ⟨f,hf⟩:∃ f,s.size - at_=f+1:=⟨s.size - at_ - 1,by omega⟩
 rw [hf];simp only [scanF];rw [if_pos h,if_neg hk,if_neg hm]
 exact scanF_fuel s _ _ _ _ (by omega) (by omega)
def xkQ (s:ByteArray):List W3 × Int × Int:=if 4000<s.size then ([],1,0) else scanI s (yoQ s 0) []
theorem blank_eq {s:ByteArray} {k:Nat} (h:k<s.size):yPQ s k=((((s[k]'h).toNat:Int) == 32) || (((s[k]'h).toNat:Int) == 10)):=by
 unfold yPQ;rw [zmQ s k h]
theorem sSkip_any (s:ByteArray) (at_:Nat) (w:World) (hs:s.size≤4000) (hat:at_≤s.size) :
    Calls Tryz.prog 119 #[.string s,.int .i64 at_] w fun e w'=>e=.returned (.int .i64 (yoQ s at_:Nat))∧w=w':=by
 go_enter Tryz.func119,Tryz.ntmps119
 go_wp2
 go_loop [1] (fun v=>∃ p:Nat,at_≤p∧p≤s.size∧v=.int .i64 p∧yoQ s at_=yoQ s p) (fun v=>s.size - (intOf v).toNat)
 case atStart=>exact ⟨at_,Nat.le_refl _,hat,rfl,rfl⟩
 case round =>
  obtain ⟨p,hap,hps,rfl,heq⟩:=hrel
  have HE:=xaQ heq
  clear heq
  by_cases hlt:p<s.size
  ·have HBY := xaQ (zmQ s p hlt)
   have HBL:=xaQ (blank_eq hlt)
   by_cases h32:(((s[p]'hlt).toNat:Int) == 32)=true
   ·have HN:=xaQ (show yoQ s at_=yoQ s (p+1) by rw [HE.out];exact zCQ hlt (by rw [HBL.out,h32];rfl))
    clear HE HBY HBL
    go_wp2
    go_round
    case rel=>exact ⟨p+1,by omega,by omega,by go_num,HN.out⟩
    case measure=>simp [intOf];omega
   ·simp only [Bool.not_eq_true] at h32
    by_cases h10:(((s[p]'hlt).toNat:Int) == 10)=true
    ·have HN:=xaQ (show yoQ s at_=yoQ s (p+1) by rw [HE.out];exact zCQ hlt (by rw [HBL.out,h32,h10];rfl))
     clear HE HBY HBL
     go_wp2
     go_round
     case rel=>exact ⟨p+1,by omega,by omega,by go_num,HN.out⟩
     case measure=>simp [intOf];omega
    ·simp only [Bool.not_eq_true] at h10
     by_cases h35:(((s[p]'hlt).toNat:Int) == 35)=true
     ·have HN:=xaQ (show yoQ s at_=yoQ s (yIQ s p) by rw [HE.out];exact skip_note hlt (by rw [HBY.out];simpa using h35))
      have HG:=xaQ (noteE_gt hlt (by rw [HBY.out];simpa using h35))
      clear HE HBY HBL
      go_wp2
      go_loop [1] (fun v=>∃ q:Nat,p≤q∧q≤s.size∧v=.int .i64 q∧∀ j,p≤j→j<q→(byt s j == 10)=false) (fun v=>s.size - (intOf v).toNat)
      case atStart=>exact ⟨p,Nat.le_refl _,hps,rfl,fun j h1 h2=>by omega⟩
      case round =>
       obtain ⟨q,hpq,hqs,rfl,hq⟩:=hrel
       have HQ:=xaQ hq
       clear hq h32 h10 h35
       by_cases hlq:q<s.size
       ·have HBQ:=xaQ (zmQ s q hlq)
        by_cases g10:(((s[q]'hlq).toNat:Int) != 10)=true
        ·have HQ1:Hid (∀ j,p≤j→j<q+1→(byt s j == 10)=false):=fun j h1 h2=>by
           rcases (by omega:j<q∨j=q) with h | rfl
           ·exact HQ.out j h1 h
           ·rw [HBQ.out];simpa using g10
         clear HQ HBQ
         go_wp2
         go_round
         case rel=>exact ⟨q+1,by omega,by omega,by go_num,HQ1.out⟩
         case measure=>simp [intOf];omega
        ·simp only [Bool.not_eq_true] at g10
         have HF:Hid (yIQ s p=q):=zhQ ⟨hpq,hqs,HQ.out,.inr (by show (byt s q == 10)=true;rw [HBQ.out];simpa using g10)⟩
         clear HQ HBQ
         go_wp2
         go_round
         case rel=>exact ⟨q,by omega,hqs,rfl,by rw [HN.out,HF.out]⟩
         case measure=>have:=HG.out;rw [HF.out] at this;simp [intOf];omega
       ·have HF:Hid (yIQ s p=q):=zhQ ⟨hpq,hqs,HQ.out,.inl (by omega)⟩
        clear HQ
        go_wp2
        go_round
        case rel=>exact ⟨q,by omega,hqs,rfl,by rw [HN.out,HF.out]⟩
        case measure=>have:=HG.out;rw [HF.out] at this;simp [intOf];omega
     ·simp only [Bool.not_eq_true] at h35
      have HN:=xaQ (show yoQ s at_=p by
       rw [HE.out]
       exact skip_stop hlt (by rw [HBL.out,h32,h10];rfl) (by rw [HBY.out];simpa using h35))
      clear HE HBY HBL
      go_wp2
      go_ret
      exact ⟨xVQ (by rw [HN.out]),rfl⟩
  ·have HN:=xaQ (show yoQ s at_=p by rw [HE.out];exact skip_end hlt)
   go_wp2
   go_ret
   exact ⟨xVQ (by rw [HN.out]),rfl⟩
theorem sEnd_any (s:ByteArray) (at_:Nat) (w:World) (hs:s.size≤4000) (hat:at_<s.size) :
    Calls Tryz.prog 120 #[.string s,.int .i64 at_] w fun e w'=>e=.returned (.int .i64 (endI s at_:Nat))∧Below w.heap.size w w':=by
 have HBY:=xaQ (zmQ s at_ hat)
 by_cases ha:xZQ s at_=true
 ·have HE := xaQ (show endI s at_=runE s at_ by simp [endI,ha])
  have key : Calls Tryz.prog 120 #[.string s,.int .i64 at_] w fun e w'=>e=.returned (.int .i64 (runE s at_:Nat))∧Below w.heap.size w w':=by
   have hor:lowI (((s[at_]'hat).toNat:Nat):Int)=true∨(lowI (((s[at_]'hat).toNat:Nat):Int)=false∧digI (((s[at_]'hat).toNat:Nat):Int)=true):=by
    unfold xZQ at ha
    rw [HBY.out] at ha
    revert ha
    cases lowI (((s[at_]'hat).toNat:Nat):Int) <;> simp
   clear HE
   have HA:=xaQ ha
   clear ha
   rcases hor with g1 | ⟨g1,g2⟩
   all_goals
    go_enter Tryz.func120,Tryz.ntmps120
    go_wp2_with (first | (go_at_call 142;refine (x3Q _ _).mono ?_;rintro e w' ⟨rfl,rfl⟩) | (go_at_call 144;refine (yiQ _ _).mono ?_;rintro e w' ⟨rfl,rfl⟩))
    go_loop [1] (fun v=>∃ q:Nat,at_≤q∧q≤s.size∧v=.int .i64 q∧∀ j,at_≤j→j<q→(!xZQ s j)=false) (fun v=>s.size - (intOf v).toNat)
    case atStart=>exact ⟨at_,Nat.le_refl _,by omega,rfl,fun j h1 h2=>by omega⟩
    case round =>
     obtain ⟨q,hpq,hqs,rfl,hq⟩:=hrel
     have HQ:=xaQ hq
     first | clear hq g1 g2 | clear hq g1
     by_cases hlq:q<s.size
     ·have HBQ:=xaQ (zmQ s q hlq)
      by_cases k1:lowI (((s[q]'hlq).toNat:Nat):Int)=true
      ·have HQ1:Hid (∀ j,at_≤j→j<q+1→(!xZQ s j)=false):=fun j h1 h2=>by
         rcases (by omega:j<q∨j=q) with h | rfl
         ·exact HQ.out j h1 h
         ·unfold xZQ;rw [HBQ.out,k1];rfl
       clear HQ HBQ
       go_wp2_with (first | (go_at_call 142;refine (x3Q _ _).mono ?_;rintro e w' ⟨rfl,rfl⟩) | (go_at_call 144;refine (yiQ _ _).mono ?_;rintro e w' ⟨rfl,rfl⟩))
       go_round
       case rel=>exact ⟨q+1,by omega,by omega,by go_num,HQ1.out⟩
       case measure=>simp [intOf];omega
      ·simp only [Bool.not_eq_true] at k1
       by_cases k2:digI (((s[q]'hlq).toNat:Nat):Int)=true
       ·have HQ1:Hid (∀ j,at_≤j→j<q+1→(!xZQ s j)=false):=fun j h1 h2=>by
          rcases (by omega:j<q∨j=q) with h | rfl
          ·exact HQ.out j h1 h
          ·unfold xZQ;rw [HBQ.out,k2];simp
        clear HQ HBQ
        go_wp2_with (first | (go_at_call 142;refine (x3Q _ _).mono ?_;rintro e w' ⟨rfl,rfl⟩) | (go_at_call 144;refine (yiQ _ _).mono ?_;rintro e w' ⟨rfl,rfl⟩))
        go_round
        case rel=>exact ⟨q+1,by omega,by omega,by go_num,HQ1.out⟩
        case measure=>simp [intOf];omega
       ·simp only [Bool.not_eq_true] at k2
        have HF:Hid (runE s at_=q):=zhQ ⟨hpq,hqs,HQ.out,.inr (by show (!xZQ s q)=true;unfold xZQ;rw [HBQ.out,k1,k2];rfl)⟩
        clear HQ HBQ
        go_wp2_with (first | (go_at_call 142;refine (x3Q _ _).mono ?_;rintro e w' ⟨rfl,rfl⟩) | (go_at_call 144;refine (yiQ _ _).mono ?_;rintro e w' ⟨rfl,rfl⟩))
        go_ret
        exact ⟨xVQ (by rw [HF.out]),Below.refl _ _⟩
     ·have HF:Hid (runE s at_=q):=zhQ ⟨hpq,hqs,HQ.out,.inl (by omega)⟩
      clear HQ
      go_wp2
      go_ret
      exact ⟨xVQ (by rw [HF.out]),Below.refl _ _⟩
  rw [HE.out]
  exact key
 ·simp only [Bool.not_eq_true] at ha
  have hno:lowI (((s[at_]'hat).toNat:Nat):Int)=false∧digI (((s[at_]'hat).toNat:Nat):Int)=false:=by
   unfold xZQ at ha
   rw [HBY.out] at ha
   simpa using ha
  obtain ⟨g1,g2⟩:=hno
  by_cases h2:(at_:Int)+1<(s.size:Int)
  ·by_cases hsg:ylQ (s.extract at_ (at_+2))=true
   ·have HE:=xaQ (show endI s at_=at_+2 by
      unfold endI
      rw [if_neg (by simp [ha]),if_pos ⟨by omega,hsg⟩])
    clear ha HBY
    go_enter Tryz.func120,Tryz.ntmps120
    go_wp2_with (first | (go_at_call 142;refine (x3Q _ _).mono ?_;rintro e w' ⟨rfl,rfl⟩) | (go_at_call 144;refine (yiQ _ _).mono ?_;rintro e w' ⟨rfl,rfl⟩) | (go_at_call 148;refine (sSign_any _ _).mono ?_;rintro e w1 ⟨rfl,hb1⟩))
    go_ret
    exact ⟨xVQ (by rw [HE.out];omega),hb1⟩
   ·have HE:=xaQ (show endI s at_=at_+1 by
      unfold endI
      rw [if_neg (by simp [ha]),if_neg (fun h=>hsg h.2)])
    simp only [Bool.not_eq_true] at hsg
    clear ha HBY
    go_enter Tryz.func120,Tryz.ntmps120
    go_wp2_with (first | (go_at_call 142;refine (x3Q _ _).mono ?_;rintro e w' ⟨rfl,rfl⟩) | (go_at_call 144;refine (yiQ _ _).mono ?_;rintro e w' ⟨rfl,rfl⟩) | (go_at_call 148;refine (sSign_any _ _).mono ?_;rintro e w1 ⟨rfl,hb1⟩))
    go_ret
    exact ⟨xVQ (by rw [HE.out];omega),hb1⟩
  ·have HE:=xaQ (show endI s at_=at_+1 by
     unfold endI
     rw [if_neg (by simp [ha]),if_neg (fun h=>h2 (by omega))])
   clear ha HBY
   go_enter Tryz.func120,Tryz.ntmps120
   go_wp2_with (first | (go_at_call 142;refine (x3Q _ _).mono ?_;rintro e w' ⟨rfl,rfl⟩) | (go_at_call 144;refine (yiQ _ _).mono ?_;rintro e w' ⟨rfl,rfl⟩))
   go_ret
   exact ⟨xVQ (by rw [HE.out];omega),Below.refl _ _⟩
def Owns (w:World) (base:Nat) (v:Value) (ws:List W3):Prop:=w.ownsRow base 130 3 v ws.length (flat ws)
theorem Owns.below {w w':World} {base:Nat} {v:Value} {ws:List W3} (h:Owns w base v ws) (hb:Below w.heap.size w w'):Owns w' base v ws:=zpQ h hb
theorem Owns.setCell {w:World} {base:Nat} {v:Value} {ws:List W3} (h:Owns w base v ws) (a:Addr) (u:Value) (hne:a.block<base):Owns (w.setCell a u) base v ws:=by
 refine World.ownsRow.kept (row:=some a.block) h ⟨rfl,rfl,rfl,by simp [World.setCell],fun k _ hk=>Below.heap_setCell _ _ _ _ (fun e=>hk (by simp [e]))⟩ (.inr ?_)
 intro e
 have:=(World.ownsRow.lt h _ e).1
 omega
theorem owns_fresh {w':World} {g base:Nat} (hb:base≤g) (hg:w'.heap[g]?=some (.cells #[] 130 (0,0))):Owns w' base (.slice (some ⟨g,0,none⟩) 0 0) [] :=
 ⟨rfl,.inr ⟨g,0,#[],rfl,hb,hg,Nat.le_refl _,by unfold maxLen;omega,rfl,rfl⟩⟩
theorem Owns.form {w:World} {base:Nat} {v:Value} {ws:List W3} (h:Owns w base v ws):∃ ao cap,v=.slice ao ws.length cap:=by
 rcases h.2 with ⟨rfl,h0⟩ | ⟨g,cap,cur,rfl,_⟩
 ·exact ⟨none,0,by rw [h0]⟩
 ·exact ⟨_,_,rfl⟩
theorem Owns.mono {w:World} {base base':Nat} {v:Value} {ws:List W3} (h:Owns w base v ws) (hb:base'≤base):Owns w base' v ws:=by
 refine ⟨h.1,?_⟩
 rcases h.2 with h0 | ⟨g,cap,cur,e1,e2,e3⟩
 ·exact .inl h0
 ·exact .inr ⟨g,cap,cur,e1,by omega,e3⟩
theorem Owns.off {w:World} {base n:Nat} {v:Value} {ws:List W3} (h:Owns w base v ws) (hn:n<base):v.ownBlock≠some n:=fun e=>by
 have:=(World.ownsRow.lt h _ e).1
 omega
theorem three_new (w:World) (a b c:Value) (j:Nat) (u:Value) (h:[a,b,c][j]?=some u):(w.alloc (.cells #[a,b,c] 130)).cell? ((⟨w.heap.size,0,none⟩:Addr).add j)=some u:=by
 rw [WideShapes.add_plain,Nat.zero_add,World.cell?_alloc_new]
 simpa using h
theorem flat_snoc (ws:List W3) (x:W3):flat ws++[.int .i64 x.k,.string x.s,.int .i64 x.a]=flat (ws++[x]):=by rw [flat_append];rfl
theorem two_set {w:World} {n:Nat} {a b c d:Value} {T:TypeId} (h:w.heap[n]?=some (.cells #[a,b] T (0,0))):((w.setCell ⟨n,0,none⟩ c).setCell ⟨n,1,none⟩ d).heap[n]?=some (.cells #[c,d] T (0,0)):=by
 have h1:=heap_setCell_same w n 0 _ T c h
 have h2:=heap_setCell_same (w.setCell ⟨n,0,none⟩ c) n 1 _ T d h1
 rw [h2];rfl
theorem two_size (w:World) (n:Nat) (c d:Value):((w.setCell ⟨n,0,none⟩ c).setCell ⟨n,1,none⟩ d).heap.size=w.heap.size:=by simp [World.setCell]
theorem fault_end {w w2:World} {c d:Value} (hN:w2.heap[w.heap.size]?=some (.cells #[.int .i64 0,.int .i64 0] 85 (0,0))) (hs:w.heap.size<w2.heap.size) (hB:Below w.heap.size w w2) :
    (((w2.setCell ⟨w.heap.size,0,none⟩ c).setCell ⟨w.heap.size,1,none⟩ d).alloc (.cells #[] 130)).cell? ⟨w.heap.size,0,none⟩=some c ∧
    (((w2.setCell ⟨w.heap.size,0,none⟩ c).setCell ⟨w.heap.size,1,none⟩ d).alloc (.cells #[] 130)).cell? ⟨w.heap.size,1,none⟩=some d ∧
    Owns (((w2.setCell ⟨w.heap.size,0,none⟩ c).setCell ⟨w.heap.size,1,none⟩ d).alloc (.cells #[] 130)) w.heap.size (.slice (some ⟨w2.heap.size,0,none⟩) 0 0) [] ∧
    Below w.heap.size w (((w2.setCell ⟨w.heap.size,0,none⟩ c).setCell ⟨w.heap.size,1,none⟩ d).alloc (.cells #[] 130)):=by
 have h2:=two_set (c:=c) (d:=d) hN
 have hz:=two_size w2 w.heap.size c d
 have h3:(((w2.setCell ⟨w.heap.size,0,none⟩ c).setCell ⟨w.heap.size,1,none⟩ d).alloc (.cells #[] 130)).heap[w.heap.size]?=some (.cells #[c,d] 85 (0,0)):=by
  rw [Lib.alloc_old _ _ _ (by omega)];exact h2
 refine ⟨by rw [Lib.cell_of_heap h3];rfl,by rw [Lib.cell_of_heap h3];rfl,owns_fresh (by omega) ?_,?_⟩
 ·have:=heap_alloc_new ((w2.setCell ⟨w.heap.size,0,none⟩ c).setCell ⟨w.heap.size,1,none⟩ d) (.cells #[] 130)
  rw [hz] at this
  exact this
 ·exact (((hB.setCell (p:=⟨w.heap.size,0,none⟩) (Nat.le_refl _) _).setCell (p:=⟨w.heap.size,1,none⟩) (Nat.le_refl _) _)).alloc (by omega) _
theorem sWords_any (s:ByteArray) (w:World) (hs:s.size≤maxLen) :
    Calls Tryz.prog 93 #[.string s] w fun e w'=>∃ v,e=.returned (.tuple #[v,.agg #[.int .i64 (xkQ s).2.1,.int .i64 (xkQ s).2.2]])∧Owns w' w.heap.size v (xkQ s).1∧Below w.heap.size w w':=by
 unfold maxLen at hs
 by_cases h4:4000<(s.size:Int)
 ·have HW:=xaQ (show xkQ s=([],1,0) by unfold xkQ;rw [if_pos (by omega)])
  rw [HW.out]
  go_enter Tryz.func93,Tryz.ntmps93
  go_wp2
  exact bodyPost_ret (v:=.tuple #[.slice (some ⟨w.heap.size+1,0,none⟩) 0 0,.agg #[.int .i64 1,.int .i64 0]]) (by simp [results,Tryz.results93,go_sem]) rfl
   ⟨_,rfl,owns_fresh (by omega) (by have:=heap_alloc_new (w.alloc (.cells #[.int .i64 1,.int .i64 0] 85)) (.cells #[] 130);simpa using this),((Below.refl _ _).alloc (Nat.le_refl _) _).alloc (by simp) _⟩
 ·have HW:=xaQ (show xkQ s=scanI s (yoQ s 0) [] by unfold xkQ;rw [if_neg (by omega)])
  have k0:=skip_le (s:=s) (Nat.zero_le _)
  obtain ⟨i0,hi,hz⟩:=Option.map_eq_some_iff.1 Tryz.info130
  simp only [Prod.mk.injEq] at hz
  obtain ⟨hz0,hz1,hz2⟩:=hz
  have HI:=xaQ (show Tryz.prog.info? 130=some i0∧i0.zero=some (.agg #[.int .i64 0,.string ByteArray.empty,.int .i64 0])∧i0.size=3∧i0.bytes=32 from ⟨hi,hz0,hz1,hz2⟩)
  clear hi hz0 hz1 hz2
  go_enter Tryz.func93,Tryz.ntmps93
  go_wp2_with fail
  refine (sSkip_any s 0 _ (by omega) (Nat.zero_le _)).mono ?_
  rintro e w1 ⟨rfl,rfl⟩
  go_wp2
  go_loopw [4,5] (fun o a w'=>∃ (p:Nat) (ws:List W3) (ao:Option Addr) (cap:Nat),a=.int .i64 p∧o=.slice ao ws.length cap∧p≤s.size∧Owns w' (w.heap.size+1) (.slice ao ws.length cap) ws∧ws.length≤1500∧scanI s p ws=xkQ s ∧
   w'.heap[w.heap.size]?=some (.cells #[.int .i64 0,.int .i64 0] 85 (0,0))∧Below w.heap.size w w') (fun _ a _=>s.size - (intOf a).toNat)
  case atStart =>
   refine ⟨yoQ s 0,[],_,0,rfl,rfl,k0,owns_fresh (Nat.le_refl _) ?_,by simp,HW.out.symm,?_,((Below.refl _ _).alloc (Nat.le_refl _) _).alloc (by simp) _⟩
   ·have:=heap_alloc_new (w.alloc (.cells #[.int .i64 0,.int .i64 0] 85)) (.cells #[] 130)
    simpa using this
   ·rw [Lib.alloc_old _ _ _ (by simp)]
    exact heap_alloc_new w _
  case round =>
   obtain ⟨p,ws,ao,cap,rfl,rfl,hps,hown,hmax,hscan,hcellN,hbel⟩:=hrel
   have HO:=xaQ hown
   have HS:=xaQ hscan
   have HN:=xaQ hcellN
   have HB:=xaQ hbel
   have hNs:w.heap.size<wr.heap.size:=by
    rcases Nat.lt_or_ge w.heap.size wr.heap.size with h' | h'
    ·exact h'
    ·simp [Array.getElem?_eq_none h'] at hcellN
   clear hown hscan hcellN hbel HW k0
   by_cases hlt:p<s.size
   ·obtain ⟨he1,he2⟩:=endI_gt hlt
    go_wp2_with fail
    refine (sEnd_any s p _ (by omega) hlt).mono ?_
    rintro e w1 ⟨rfl,hb1⟩
    have HB1:=xaQ (xbQ HB.out hb1)
    have HO1:=xaQ (HO.out.below hb1)
    have HN1:=xaQ ((hb1.block _ hNs).trans HN.out)
    have hNs1:w.heap.size<w1.heap.size:=Nat.lt_of_lt_of_le hNs hb1.size
    clear hb1 HB HO HN
    go_wp2_with fail
    refine (sKind_any (s.extract p (endI s p)) _ ?hsz).mono ?_
    case hsz=>unfold maxLen;simp;omega
    rintro e w2 ⟨rfl,hb2⟩
    have HB2:=xaQ (xbQ HB1.out hb2)
    have HO2:=xaQ (HO1.out.below hb2)
    have HN2:=xaQ ((hb2.block _ hNs1).trans HN1.out)
    have hNs2:w.heap.size<w2.heap.size:=Nat.lt_of_lt_of_le hNs1 hb2.size
    clear hb2 HB1 HO1 HN1 hNs hNs1
    have c0:w2.cell? ⟨w.heap.size,0,none⟩=some (.int .i64 0):=by rw [Lib.cell_of_heap HN2.out];rfl
    have c1:w2.cell? ⟨w.heap.size,1,none⟩=some (.int .i64 0):=by rw [Lib.cell_of_heap HN2.out];rfl
    have f0:=Lib.frozen_of_heap HN2.out 0
    have f1:=Lib.frozen_of_heap HN2.out 1
    by_cases hk:(xAQ (s.extract p (endI s p)) == 0)=true
    ·have HR:=xaQ (show xkQ s=([],2,(p:Int)) by rw [← HS.out];exact scan_bad hlt (by simpa using hk))
     clear HO2 HS
     go_wp2
     obtain ⟨q0,q1,q2,q3⟩:=fault_end (c:=.int .i64 2) (d:=.int .i64 p) HN2.out hNs2 HB2.out
     exact bodyPost_ret (v:=.tuple #[.slice (some ⟨w2.heap.size,0,none⟩) 0 0,.agg #[.int .i64 2,.int .i64 p]]) (by simp [results,Tryz.results93,go_sem,q0,q1]) rfl ⟨_,by rw [HR.out],by rw [HR.out];exact q2,q3⟩
    ·have hk0:xAQ (s.extract p (endI s p))≠0:=by simpa using hk
     simp only [Bool.not_eq_true] at hk
     by_cases hm:((ws.length:Int) == 1500)=true
     ·have HR:=xaQ (show xkQ s=([],3,(p:Int)) by
        rw [← HS.out]
        refine scan_many hlt hk0 ?_
        simp at hm;omega)
      clear HO2 HS
      go_wp2
      obtain ⟨q0,q1,q2,q3⟩:=fault_end (c:=.int .i64 3) (d:=.int .i64 p) HN2.out hNs2 HB2.out
      exact bodyPost_ret (v:=.tuple #[.slice (some ⟨w2.heap.size,0,none⟩) 0 0,.agg #[.int .i64 3,.int .i64 p]]) (by simp [results,Tryz.results93,go_sem,q0,q1]) rfl ⟨_,by rw [HR.out],by rw [HR.out];exact q2,q3⟩
     ·have hm0:ws.length≠1500:=by simp at hm;omega
      simp only [Bool.not_eq_true] at hm
      have HR:=xaQ (scan_go hlt hk0 hm0)
      have HK0:=xaQ hk0
      clear hk0 c0 c1 f0 f1
      go_wp2_with (at_builtin;refine wpList_append_lies _ rfl _ _ 122 rfl (w.heap.size+1) 130 i0 (.agg #[.int .i64 0,.string ByteArray.empty,.int .i64 0]) 3 32 Tryz.underlying122 HI.out.1 HI.out.2.1 HI.out.2.2.1 HI.out.2.2.2 rfl (by decide) _ _ _ rfl (HO2.out.alloc _) ⟨w2.heap.size,0,none⟩ 1 1 [.int .i64 (xAQ (s.extract p (endI s p))),.string (s.extract p (endI s p)),.int .i64 p] rfl rfl ?c1 ?c2 (by decide) ?c3 ?c4 ?c5 (w2.heap.size+1) (by simp) ?_)
      case c1=>exact three_new _ _ _ _
      case c2=>intro u hu;simp at hu;rcases hu with rfl | rfl | rfl <;> rfl
      case c3=>unfold maxLen;omega
      case c4=>omega
      case c5=>simp;omega
      intro g cap' w3 hown' hgrow _ _
      have hoff:=HO2.out.off (n:=w.heap.size) (by omega)
      have HN3:Hid (w3.heap[w.heap.size]?=some (.cells #[.int .i64 0,.int .i64 0] 85 (0,0))):=by
       show _=_
       rw [hgrow.block _ (by simp;omega) (fun e=>hoff e.symm),Lib.alloc_old _ _ _ hNs2]
       exact HN2.out
      have HB3:Hid (Below w.heap.size w w3):=(HB2.out.alloc (by omega) _).grown hgrow (by simp;omega) (fun k hk=>by have:=(World.ownsRow.lt HO2.out k hk).1;omega)
      have HO3:Hid (Owns w3 (w.heap.size+1) (.slice (some ⟨g,0,none⟩) (ws.length+1) cap') (ws++[⟨xAQ (s.extract p (endI s p)),s.extract p (endI s p),p⟩])):=by
       show Owns _ _ _ _
       unfold Owns
       rw [← flat_snoc,List.length_append]
       exact hown'
      clear hown' hgrow hoff HN2 HB2 HO2
      go_wp2_with fail
      refine (sSkip_any s (endI s p) _ (by omega) he2).mono ?_
      rintro e w4 ⟨rfl,rfl⟩
      have k1:=skip_ge s (endI s p)
      have k2:=skip_le he2
      go_wp2
      go_roundw
      case rel=>exact ⟨yoQ s (endI s p),ws++[⟨xAQ (s.extract p (endI s p)),s.extract p (endI s p),p⟩],_,_,rfl,by rw [List.length_append];rfl,k2,by rw [List.length_append];exact HO3.out,by rw [List.length_append];simp;omega,HR.out.symm.trans HS.out,HN3.out,HB3.out⟩
      case measure=>simp [intOf];omega
   ·have HR:=xaQ (show xkQ s=(ws,0,0) by rw [← HS.out];exact scan_end hlt)
    have c0:wr.cell? ⟨w.heap.size,0,none⟩=some (.int .i64 0):=by rw [Lib.cell_of_heap HN.out];rfl
    have c1:wr.cell? ⟨w.heap.size,1,none⟩=some (.int .i64 0):=by rw [Lib.cell_of_heap HN.out];rfl
    have f0:=Lib.frozen_of_heap HN.out 0
    have f1:=Lib.frozen_of_heap HN.out 1
    go_wp2
    have h2:=two_set (c:=.int .i64 0) (d:=.int .i64 0) HN.out
    have q0:((wr.setCell ⟨w.heap.size,0,none⟩ (.int .i64 0)).setCell ⟨w.heap.size,1,none⟩ (.int .i64 0)).cell? ⟨w.heap.size,0,none⟩=some (.int .i64 0):=by rw [Lib.cell_of_heap h2];rfl
    have q1:((wr.setCell ⟨w.heap.size,0,none⟩ (.int .i64 0)).setCell ⟨w.heap.size,1,none⟩ (.int .i64 0)).cell? ⟨w.heap.size,1,none⟩=some (.int .i64 0):=by rw [Lib.cell_of_heap h2];rfl
    exact bodyPost_ret (v:=.tuple #[.slice ao ws.length cap,.agg #[.int .i64 0,.int .i64 0]]) (by simp [results,Tryz.results93,go_sem,q0,q1]) rfl
     ⟨_,by rw [HR.out],by rw [HR.out];exact (((HO.out.setCell ⟨w.heap.size,0,none⟩ _ (Nat.lt_succ_self _)).setCell ⟨w.heap.size,1,none⟩ _ (Nat.lt_succ_self _))).mono (Nat.le_succ _),
      (HB.out.setCell (p:=⟨w.heap.size,0,none⟩) (Nat.le_refl _) _).setCell (p:=⟨w.heap.size,1,none⟩) (Nat.le_refl _) _⟩
theorem yxQ (s:ByteArray) (k:Nat):byt s k=((s.data.toList.getD k 0).toNat:Int):=by
 unfold byt
 by_cases h:k<s.size
 ·rw [dif_pos h]
  have h':k<s.data.toList.length:=by rw [← Lib.size_eq];exact h
  rw [List.getD_eq_getElem?_getD,List.getElem?_eq_getElem h']
  simp only [Option.getD_some,Array.getElem_toList]
  rfl
 ·rw [dif_neg h]
  have h':s.data.toList.length≤k:=by rw [← Lib.size_eq];omega
  rw [List.getD_eq_getElem?_getD,List.getElem?_eq_none h']
  rfl
theorem size_ext (s:ByteArray) (a b:Nat) (h:b≤s.size):(s.extract a b).size=b - a:=by
 rw [Lib.size_eq,Lib.extract_data]
 rw [Lib.size_eq] at h
 simp only [List.length_take,List.length_drop]
 omega
theorem byt_ext (s:ByteArray) (a b k:Nat) (hk:a+k<b):byt (s.extract a b) k=byt s (a+k):=by
 rw [yxQ,yxQ,Lib.extract_data,List.getD_eq_getElem?_getD,List.getD_eq_getElem?_getD,List.getElem?_take_of_lt (by omega),List.getElem?_drop]
theorem ext_ext (s:ByteArray) (a b c d:Nat) (hd:a+d≤b):(s.extract a b).extract c d=s.extract (a+c) (a+d):=by
 rw [Lib.extract_eq,Lib.extract_data,Lib.extract_eq]
 congr 2
 rw [List.drop_take,List.drop_drop,List.take_take]
 congr 1
 omega
theorem alnum_ext (s:ByteArray) (a b k:Nat) (hk:a+k<b):xZQ (s.extract a b) k=xZQ s (a+k):=by
 unfold xZQ;rw [byt_ext s a b k hk]
def rest (s:ByteArray) (p:Nat):ByteArray:=s.extract p s.size
theorem noteE_rest {s : ByteArray} {p:Nat} (h:p≤s.size):p+yIQ (rest s p) 0=yIQ s p:=by
 have hz:(rest s p).size=s.size - p:=size_ext s p s.size (Nat.le_refl _)
 obtain ⟨_,b,c,d⟩:=zzQ (fun j=>byt (rest s p) j == 10) (rest s p).size 0 (Nat.zero_le _)
 have b':yIQ (rest s p) 0≤(rest s p).size:=b
 refine (zhQ ⟨by omega,by omega,fun j h1 h2=>?_,?_⟩).symm
 ·have:(byt (rest s p) (j - p) == 10)=false:=c (j - p) (Nat.zero_le _) (show j - p<yIQ (rest s p) 0 by omega)
  unfold rest at this
  rw [byt_ext s p s.size (j - p) (by omega)] at this
  rwa [show p+(j - p)=j by omega] at this
 ·rcases d with h1 | h1
  ·left;have h1':yIQ (rest s p) 0=(rest s p).size:=h1;omega
  ·by_cases e : yIQ   (rest s p) 0=(rest s p).size
   ·left;omega
   ·right
    have h1':(byt (rest s p) (yIQ (rest s p) 0) == 10)=true:=h1
    unfold rest at h1'
    rw [byt_ext s p s.size _ (by have:(s.extract p s.size).size=s.size - p:=hz
                                 have:yIQ (s.extract p s.size) 0=yIQ (rest s p) 0:=rfl
                                 omega)] at h1'
    exact h1'
theorem runE_rest {s : ByteArray} {p:Nat} (h:p≤s.size):p+runE (rest s p) 0=runE s p:=by
 have hz:(rest s p).size=s.size - p:=size_ext s p s.size (Nat.le_refl _)
 obtain ⟨_,b,c,d⟩:=zzQ (fun j=>!xZQ (rest s p) j) (rest s p).size 0 (Nat.zero_le _)
 have b':runE (rest s p) 0≤(rest s p).size:=b
 refine (zhQ ⟨by omega,by omega,fun j h1 h2=>?_,?_⟩).symm
 ·have:(!xZQ (rest s p) (j - p))=false:=c (j - p) (Nat.zero_le _) (show j - p<runE (rest s p) 0 by omega)
  unfold rest at this
  rw [alnum_ext s p s.size (j - p) (by omega)] at this
  rwa [show p+(j - p)=j by omega] at this
 ·rcases d with h1 | h1
  ·left;have h1':runE (rest s p) 0=(rest s p).size:=h1;omega
  ·by_cases e : runE (rest s p) 0 = (rest s p).size
   ·left;omega
   ·right
    have h1':(!xZQ (rest s p) (runE (rest s p) 0))=true:=h1
    unfold rest at h1'
    rw [alnum_ext s p s.size _ (by have:(s.extract p s.size).size=s.size - p:=hz
                                   have:runE (s.extract p s.size) 0=runE (rest s p) 0:=rfl
                                   omega)] at h1'
    exact h1'
def blkI (r:Int):Bool:=r == 32 || r == 10
theorem isBlank_any (r:Int) (w:World):Calls Tryz.prog 153 #[.int .i32 r] w fun e w'=>e=.returned (.bool (blkI r))∧w=w':=by
 unfold blkI
 go_enter Tryz.func153,Tryz.ntmps153
 go_wp2
 all_goals (go_ret;exact ⟨xyQ (by simp_all <;> omega),rfl⟩)
theorem list_get {t:ByteArray} {k:Nat} (h:k<t.size):t.data.toList[k]?=some (t[k]'h):=by
 have h':k<t.data.toList.length:=by rw [← Lib.size_eq];exact h
 rw [List.getElem?_eq_getElem h'];simp only [Array.getElem_toList];rfl
theorem u8_ten {c:UInt8} (h:(c.toNat:Int)=10):c=10:=by
 have:c.toNat=10:=by omega
 exact UInt8.toNat_inj.1 this
theorem note_some {t:ByteArray} {o:Nat} (h:Lib.indexByte t.data.toList 10=o):yIQ t 0=o:=by
 obtain ⟨h1,h2⟩:=Lib.indexByte_some h
 have ho:o<t.size:=by rw [Lib.size_eq];exact (List.getElem?_eq_some_iff.1 h1).1
 refine zhQ ⟨Nat.zero_le _,by omega,fun j _ hj=>?_,.inr ?_⟩
 ·have:=h2 j hj
  rw [list_get (by omega:j<t.size)] at this
  show (byt t j == 10)=false
  rw [zmQ t j (by omega)]
  simp only [beq_eq_false_iff_ne,ne_eq]
  intro e
  exact this (by rw [u8_ten e])
 ·show (byt t o == 10)=true
  rw [zmQ t o ho]
  rw [list_get ho] at h1
  simp only [Option.some.injEq] at h1
  rw [h1];rfl
theorem note_none {t:ByteArray} (h:Lib.indexByte t.data.toList 10=-1):yIQ t 0=t.size:=by
 refine zhQ ⟨Nat.zero_le _,Nat.le_refl _,fun j _ hj=>?_,.inl rfl⟩
 have:=Lib.indexByte_none h j
 rw [list_get hj] at this
 show (byt t j == 10)=false
 rw [zmQ t j hj]
 simp only [beq_eq_false_iff_ne,ne_eq]
 intro e
 exact this (by rw [u8_ten e])
theorem noteSize_any (t:ByteArray) (w:World):Calls Tryz.prog 154 #[.string t] w fun e w'=>e=.returned (.int .i64 (yIQ t 0:Nat))∧w=w':=by
 by_cases h:0≤Lib.indexByte t.data.toList 10
 ·obtain ⟨o,ho⟩:=Int.eq_ofNat_of_zero_le h
  have HN:=xaQ (note_some ho)
  have HO:=xaQ ho
  clear ho
  go_enter Tryz.func154,Tryz.ntmps154
  go_wp2_with fail
  refine (Tryz.strings_IndexByte t 10 _).mono ?_
  rintro e w1 ⟨rfl,rfl⟩
  rw [show (10:Int).toNat.toUInt8=10 from rfl,HO.out]
  go_wp2
  go_ret
  exact ⟨xVQ (by rw [HN.out]),rfl⟩
 ·have h1:Lib.indexByte t.data.toList 10=-1:=by have:=Lib.indexByte_ge t.data.toList 10;omega
  have HN:=xaQ (note_none h1)
  have HO:=xaQ h1
  clear h1 h
  go_enter Tryz.func154,Tryz.ntmps154
  go_wp2_with fail
  refine (Tryz.strings_IndexByte t 10 _).mono ?_
  rintro e w1 ⟨rfl,rfl⟩
  rw [show (10:Int).toNat.toUInt8=10 from rfl,HO.out]
  go_wp2
  go_ret
  exact ⟨xVQ (by rw [HN.out]),rfl⟩
end Go.Proofs.YtocbgbkdlfkjjaaGreatDoor
