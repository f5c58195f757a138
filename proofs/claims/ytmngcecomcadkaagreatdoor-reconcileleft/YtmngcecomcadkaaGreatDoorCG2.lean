/- Texts of one layer, one behind the other. -/
import Derived.Test.YtmngcecomcadkaaGreatDoorCG1
set_option maxRecDepth 100000
set_option maxHeartbeats 8000000
namespace Go.Proofs.YtmngcecomcadkaaGreatDoor.Sm
set_option linter.unusedVariables false
abbrev S:=Int×Int
def Up (en:Int):Int→Int→List S→Prop
 |_,_,[]=>True
 |e,f,s::r=>e<s.1∧s.1≤1048576∧f<s.2∧s.2≤en∧Up en s.1 s.2 r
def upb (en:Int):Int→Int→List S→Bool
 |_,_,[]=>true
 |e,f,s::r=>(decide (e<s.1)&&decide (s.1≤1048576))&&((decide (f<s.2)&&decide (s.2≤en))&&upb en s.1 s.2 r)
theorem abH (en:Int):∀(e f:Int) (l:List S),upb en e f l=true↔Up en e f l
 |_,_,[]=>⟨fun _=>trivial,fun _=>rfl⟩
 |e,f,s::r=>by
  unfold upb Up
  rw[Bool.and_eq_true,Bool.and_eq_true,Bool.and_eq_true,Bool.and_eq_true,abH en s.1 s.2 r,decide_eq_true_iff,decide_eq_true_iff,decide_eq_true_iff,decide_eq_true_iff]
  constructor
  ·rintro⟨⟨h1,h2⟩,⟨h3,h4⟩,h5⟩
   exact⟨h1,h2,h3,h4,h5⟩
  ·rintro⟨h1,h2,h3,h4,h5⟩
   exact⟨⟨h1,h2⟩,⟨h3,h4⟩,h5⟩
def Ok (l:List S) (en:Int):Prop:=0≤en∧en≤1048576∧(l.length=0↔en=0)∧Up en 0 0 l∧((l.map Prod.snd).headD 1=1)
def okb (l:List S) (en:Int):Bool:=(decide (0≤en)&&decide (en≤1048576))&&(decide (l.length=0↔en=0)&&(upb en 0 0 l&&decide ((l.map Prod.snd).headD 1=1)))
theorem xV {l:List S}{en:Int}:okb l en=true↔Ok l en:=by
 unfold okb Ok
 rw[Bool.and_eq_true,Bool.and_eq_true,Bool.and_eq_true,Bool.and_eq_true,abH,decide_eq_true_iff,decide_eq_true_iff,decide_eq_true_iff,decide_eq_true_iff]
 constructor
 ·rintro⟨⟨h1,h2⟩,h3,h4,h5⟩
  exact⟨h1,h2,h3,h4,h5⟩
 ·rintro⟨h1,h2,h3,h4,h5⟩
  exact⟨⟨h1,h2⟩,h3,h4,h5⟩
def chk (l:List S) (en:Int):Int:=if okb l en=true then 0 else 5
theorem fZ {l:List S}{en:Int}(h:Ok l en):chk l en=0:=if_pos (xV.2 h)
theorem ik {l:List S}{en:Int}(h:¬Ok l en):chk l en=5:=if_neg fun k=>h (xV.1 k)
theorem aO {l:List S}{en:Int}:chk l en=0↔Ok l en:=by
 constructor
 ·intro h
  by_cases k:Ok l en
  ·exact k
  ·rw[ik k]at h;simp at h
 ·exact fZ
def epo (n:Int):Int→List S→Int
 |e,[]=>e
 |e,s::r=>if s.2≤n then epo n s.1 r else e
def beg (n:Int):List S→List S
 |[]=>[]
 |s::r=>if s.2≤n then s::beg n r else []
def dH (l:List S):Int:=((l.map Prod.fst).getLast?).getD 0
theorem asS:dH []=0:=rfl
theorem jE (l:List S)(s:S):dH (l++[s])=s.1:=by simp[dH]
theorem tV {l:List S}{s:S}(h:l[l.length-1]? =some s):dH l=s.1:=by
 unfold dH
 rw[List.getLast?_eq_getElem?,List.length_map,List.getElem?_map,h]
 rfl
theorem uV:∀(l:List S) (en e f:Int),Up en e f l→∀(i:Nat) (s:S),l[i]? =some s→e<s.1∧s.1≤1048576∧f<s.2∧s.2≤en
 |[],_,_,_,_,_,_,h=>by simp at h
 |t::r,en,e,f,h,0,s,hs=>by
  simp at hs
  subst hs
  exact⟨h.1,h.2.1,h.2.2.1,h.2.2.2.1⟩
 |t::r,en,e,f,h,i+1,s,hs=>by
  have:=uV r en t.1 t.2 h.2.2.2.2 i s (by simpa using hs)
  have:=h.1
  have:=h.2.2.1
  omega
theorem ajf:∀(l:List S) (en e f:Int),Up en e f l→∀(i j:Nat) (s t:S),i<j→l[i]? =some s→l[j]? =some t→s.1<t.1∧s.2<t.2
 |[],_,_,_,_,_,_,_,_,_,h,_=>by simp at h
 |a::r,en,e,f,h,0,j,s,t,hij,hs,ht=>by
  simp at hs
  subst hs
  obtain⟨j,rfl⟩:∃k,j=k+1:=⟨j-1,by omega⟩
  have:=uV r en a.1 a.2 h.2.2.2.2 j t (by simpa using ht)
  omega
 |a::r,en,e,f,h,i+1,j,s,t,hij,hs,ht=>by
  obtain⟨j,rfl⟩:∃k,j=k+1:=⟨j-1,by omega⟩
  exact ajf r en a.1 a.2 h.2.2.2.2 i j s t (by omega) (by simpa using hs) (by simpa using ht)
theorem ar3 {l:List S}{k:Nat}{s:S}{en e f:Int}(h:l[k]? =some s):Up en e f (l.drop k)↔e<s.1∧s.1≤1048576∧f<s.2∧s.2≤en∧Up en s.1 s.2 (l.drop (k+1)):=by
 have hk:=(List.getElem?_eq_some_iff.1 h).1
 rw[List.drop_eq_getElem_cons hk,(List.getElem?_eq_some_iff.1 h).2]
 rfl
theorem uH:∀(n:Int) (l:List S),beg n l=l.take (beg n l).length
 |_,[]=>by simp[beg]
 |n,s::r=>by
  unfold beg
  split
  ·rw[List.length_cons,List.take_succ_cons,←uH n r]
  ·simp
theorem akC (n:Int)(l:List S):(beg n l).length≤l.length:=by
 have:=congrArg List.length (uH n l)
 rw[List.length_take]at this
 omega
theorem aeT:∀(n:Int) (l:List S) (i:Nat) (s:S),i<(beg n l).length→l[i]? =some s→s.2≤n
 |_,[],_,_,h,_=>by simp[beg]at h
 |n,t::r,i,s,h,hs=>by
  unfold beg at h
  split at h
  ·rename_i ht
   cases i with
   |zero=>simp at hs;subst hs;exact ht
   |succ i=>exact aeT n r i s (by simpa using h) (by simpa using hs)
  ·simp at h
theorem ahh:∀(n:Int) (l:List S) (s:S),l[(beg n l).length]? =some s→n<s.2
 |_,[],_,h=>by simp[beg]at h
 |n,t::r,s,h=>by
  unfold beg at h
  split at h
  ·rename_i ht
   exact ahh n r s (by simpa using h)
  ·rename_i ht
   simp at h
   subst h
   omega
theorem asH {l:List S}{en e f n:Int}(h:Up en e f l){k:Nat}(hk:k≤l.length)(h1:∀(i:Nat) (s:S),i<k→l[i]? =some s→s.2≤n)(h2:∀s:S,l[k]? =some s→n<s.2):(beg n l).length=k:=by
 have hb:=akC n l
 rcases Nat.lt_trichotomy (beg n l).length k with h3|h3|h3
 ·have hs:l[(beg n l).length]? =some l[(beg n l).length]:=List.getElem?_eq_getElem (by omega)
  have:=ahh n l _ hs
  have:=h1 _ _ h3 hs
  omega
 ·exact h3
 ·have hs:l[k]? =some l[k]:=List.getElem?_eq_getElem (by omega)
  have:=aeT n l k _ h3 hs
  have:=h2 _ hs
  omega
theorem ahn:∀(n e:Int) (l:List S),epo n e l=((beg n l).map Prod.fst).getLast?.getD e
 |_,_,[]=>rfl
 |n,e,s::r=>by
  unfold epo beg
  split
  ·rw[ahn n s.1 r,List.map_cons,List.getLast?_cons]
   rfl
  ·rfl
theorem abT (n:Int)(l:List S):epo n 0 l=dH (beg n l):=ahn n 0 l
theorem afk {l:List S}{en e f n:Int}(h:Up en e f l){k:Nat}{s:S}(hs:l[k]? =some s)(h1:s.2≤n)(h2:∀t:S,l[k+1]? =some t→n<t.2):epo n 0 l=s.1:=by
 have hk:=(List.getElem?_eq_some_iff.1 hs).1
 have hl:(beg n l).length=k+1:=by
  refine asH h (by omega) (fun i t hi ht=>?_) h2
  rcases Nat.lt_or_ge i k with g|g
  ·have:=(ajf l en e f h i k t s g ht hs).2
   omega
  ·obtain rfl:i=k:=by omega
   rw[hs]at ht
   simp at ht
   subst ht
   exact h1
 rw[abT,uH,hl]
 refine tV ?_
 rw[List.length_take,show min (k+1) l.length-1=k by omega,List.getElem?_take,if_pos (by omega)]
 exact hs
theorem aox {l:List S}{n:Int}(h:∀s:S,l[0]? =some s→n<s.2):epo n 0 l=0:=by
 cases l with
 |nil=>rfl
 |cons s r=>
  have:=h s (by simp)
  unfold epo
  rw[if_neg (by omega)]
theorem agZ {l:List S}{en:Int}(h:Ok l en):∀s:S,l[0]? =some s→s.2=1:=by
 intro s hs
 cases l with
 |nil=>simp at hs
 |cons t r=>
  simp at hs
  subst hs
  exact h.2.2.2.2
theorem ym {l:List S}{en:Int}(h:Ok l en):epo 0 0 l=0:=aox fun s hs=>by rw[agZ h s hs];omega
theorem avL {l:List S}{en e f n:Int}(h:Up en e f l){k:Nat}(hl:∀s:S,l[k+1]? =some s→n<s.2){t:S}(ht:l[k]? =some t)(he:0≤e):epo n 0 l≤t.1:=by
 rw[abT]
 have hk:(beg n l).length≤k+1:=by
  rcases Nat.lt_or_ge (k+1) (beg n l).length with g|g
  ·have:=akC n l
   have hs:l[k+1]? =some l[k+1]:=List.getElem?_eq_getElem (by omega)
   have:=aeT n l (k+1) _ g hs
   have:=hl _ hs
   omega
  ·exact g
 rw[uH]
 generalize hq:(beg n l).length=q at hk
 have hkl:=(List.getElem?_eq_some_iff.1 ht).1
 cases q with
 |zero=>
  have:=uV l en e f h k t ht
  simp[asS]
  omega
 |succ q=>
  have hs:l[q]? =some l[q]:=List.getElem?_eq_getElem (by omega)
  rw[tV (s:=l[q]) (by rw[List.length_take,show min (q+1) l.length-1=q by omega,List.getElem?_take,if_pos (by omega)];exact hs)]
  rcases Nat.lt_or_ge q k with g|g
  ·have:=(ajf l en e f h q k _ t g hs ht).1
   omega
  ·obtain rfl:q=k:=by omega
   rw[hs]at ht
   simp at ht
   rw[ht]
   exact Int.le_refl _
def Fk (a:List S) (ae:Int) (b:List S) (be n:Int):Prop:=
 0≤n∧n≤ae∧n≤be∧epo n 0 a=epo n 0 b∧∀m,n<m→m≤ae→m≤be→epo m 0 a≠epo m 0 b
theorem awY {a b:List S}{ae be n m:Int}(h:Fk a ae b be n)(k:Fk a ae b be m):n=m:=by
 obtain⟨h1,h2,h3,h4,h5⟩:=h
 obtain⟨k1,k2,k3,k4,k5⟩:=k
 rcases Int.lt_trichotomy n m with g|g|g
 ·exact absurd k4 (h5 m g k2 k3)
 ·exact g
 ·exact absurd h4 (k5 n g h2 h3)
structure Bk (a:List S) (ae:Int) (b:List S) (be:Int) (p:Nat) (x:Int) (q:Nat) (y:Int):Prop where
 pa:p≤a.length
 qb:q≤b.length
 xa:(p=a.length∧x=ae)∨∃s:S,a[p]? =some s∧x=s.2-1
 yb:(q=b.length∧y=be)∨∃s:S,b[q]? =some s∧y=s.2-1
 no:∀m,m≤ae→m≤be→(x<m∨y<m)→epo m 0 a≠epo m 0 b
theorem aee (a b:List S)(ae be:Int):Bk a ae b be a.length ae b.length be:=
 ⟨Nat.le_refl _,Nat.le_refl _,.inl ⟨rfl,rfl⟩,.inl ⟨rfl,rfl⟩,fun m h1 h2 h3=>by omega⟩
theorem Bk.swap {a b:List S}{ae be x y:Int}{p q:Nat}(h:Bk a ae b be p x q y):Bk b be a ae q y p x:=
 ⟨h.qb,h.pa,h.yb,h.xa,fun m h1 h2 h3 e=>h.no m h2 h1 h3.symm e.symm⟩
theorem Bk.bound {a b:List S}{ae be x y:Int}{p q:Nat}(h:Bk a ae b be p x q y)(ha:Ok a ae):0≤x∧x≤ae∧(p=0→x=0)∧(∀s:S,a[p]? =some s→x<s.2):=by
 rcases h.xa with⟨rfl,rfl⟩|⟨s,hs,rfl⟩
 ·exact⟨ha.1,Int.le_refl _,fun h0=>ha.2.2.1.1 h0,fun s hs=>by simp at hs⟩
 ·have:=uV a ae 0 0 ha.2.2.2.1 p s hs
  refine⟨by omega,by omega,fun h0=>?_,fun t ht=>?_⟩
  ·subst h0
   have:=agZ ha s hs
   omega
  ·rw[hs]at ht
   simp at ht
   subst ht
   omega
theorem Bk.drop {a b:List S}{ae be x y:Int}{p q:Nat}(h:Bk a ae b be (p+1) x (q+1) y)(ha:Ok a ae)(hb:Ok b be){s t:S}(hs:a[p]? =some s)(ht:b[q]? =some t)(hd:t.1<s.1∨x<s.2∨y<s.2):Bk a ae b be p (s.2-1) (q+1) y:=by
 have hp:=h.pa
 refine⟨by omega,h.qb,.inr ⟨s,hs,rfl⟩,h.yb,fun m h1 h2 h3=>?_⟩
 by_cases hm:x<m∨y<m
 ·exact h.no m h1 h2 hm
 ·have h4:s.2≤m:=by omega
  rcases hd with hd|hd|hd
  ·have e1:=afk ha.2.2.2.1 hs h4 (fun t' ht'=>by have:=(h.bound ha).2.2.2 t' ht';omega)
   have e2:=avL hb.2.2.2.1 (n:=m) (k:=q) (fun s' hs'=>by have:=(h.swap.bound hb).2.2.2 s' hs';omega) ht (Int.le_refl 0)
   omega
  ·omega
  ·omega
theorem Bk.found {a b:List S}{ae be x y:Int}{p q:Nat}(h:Bk a ae b be (p+1) x (q+1) y)(ha:Ok a ae)(hb:Ok b be){s t:S}(hs:a[p]? =some s)(ht:b[q]? =some t)(h1:¬t.1<s.1)(h2:¬s.1<t.1)(h3:s.2≤min x y)(h4:t.2≤min x y):Fk a ae b be (min x y):=by
 obtain⟨x0,x1,_,x2⟩:=h.bound ha
 obtain⟨y0,y1,_,y2⟩:=h.swap.bound hb
 refine⟨by omega,by omega,by omega,?_,fun m g1 g2 g3=>h.no m g2 g3 (by omega)⟩
 rw[afk ha.2.2.2.1 hs h3 (fun t' ht'=>by have:=x2 t' ht';omega),afk hb.2.2.2.1 ht h4 (fun t' ht'=>by have:=y2 t' ht';omega)]
 omega
theorem Bk.none {a b:List S}{ae be x y:Int}{p q:Nat}(h:Bk a ae b be p x q y)(ha:Ok a ae)(hb:Ok b be)(h0:p=0∨q=0):Fk a ae b be (min x y):=by
 obtain⟨x0,x1,x3,x2⟩:=h.bound ha
 obtain⟨y0,y1,y3,y2⟩:=h.swap.bound hb
 have h1:min x y=0:=by
  rcases h0 with h0|h0
  ·have:=x3 h0;omega
  ·have:=y3 h0;omega
 refine⟨by omega,by omega,by omega,?_,fun m g1 g2 g3=>h.no m g2 g3 (by omega)⟩
 rw[h1,ym ha,ym hb]
def told (ep:Int):List Cm.Cv→List S
 |[]=>[]
 |c::r=>if c.e=ep then told c.e r else(c.e,c.n)::told c.e r
theorem zM:∀(l m:List Cm.Cv) (ep:Int),told ep (l++m)=told ep l++told (Cm.lastE ep l) m
 |[],m,_=>rfl
 |c::r,m,ep=>by
  have h:=zM r m c.e
  simp only[List.cons_append,told,Cm.lastE]
  split
  ·exact h
  ·rw[h];rfl
theorem ame (l:List Cm.Cv)(c:Cm.Cv)(ep:Int):told ep (l++[c])=if c.e=Cm.lastE ep l then told ep l else told ep l++[(c.e,c.n)]:=by
 rw[zM]
 simp only[told]
 split<;>simp
theorem xL:∀(l:List Cm.Cv) (ep:Int),(((told ep l).map Prod.fst).getLast?).getD ep=Cm.lastE ep l
 |[],_=>rfl
 |c::r,ep=>by
  unfold told
  split
  ·rename_i h
   rw[←h]
   exact xL r c.e
  ·rw[List.map_cons,List.getLast?_cons]
   exact xL r c.e
theorem aeM (l:List Cm.Cv):dH (told 0 l)=Cm.lastE 0 l:=xL l 0
theorem abG:∀(l:List Cm.Cv) (ep nu en:Int),Cm.Good ep nu l→nu+l.length≤en→Up en ep nu (told ep l)
 |[],_,_,_,_,_=>trivial
 |c::r,ep,nu,en,h,hl=>by
  obtain⟨h1,h2,h3,h4⟩:=h
  obtain⟨b1,b2,b3,b4,_⟩:=Cm.aO h1
  have hl':c.n+r.length≤en:=by simp at hl;omega
  have:=abG r c.e c.n en h4 hl'
  unfold told
  split
  ·rename_i he
   rw[←he]
   generalize told c.e r=u at this
   cases u with
   |nil=>trivial
   |cons s u=>
    obtain⟨g1,g2,g3,g4,g5⟩:=this
    exact⟨g1,g2,by omega,g4,g5⟩
  ·exact⟨by omega,b2,by omega,by simp at hl;omega,this⟩
theorem eO {l:List Cm.Cv}(h:Cm.Good 0 0 l):(l.length:Int)≤1048576:=by
 cases hl:l.length with
 |zero=>simp
 |succ k=>
  have hc:l[k]? =some l[k]:=List.getElem?_eq_getElem (by omega)
  obtain⟨g1,g2,_⟩:=Cm.nI l 0 0 k _ h hc
  have:=Cm.aO g1
  simp
  omega
theorem qa {l:List Cm.Cv}(h:Cm.Good 0 0 l):Ok (told 0 l) l.length:=by
 refine⟨by omega,eO h,?_,abG l 0 0 l.length h (by omega),?_⟩
 ·cases l with
  |nil=>simp[told]
  |cons c r=>
   obtain⟨h1,h2,h3,h4⟩:=h
   have:=Cm.aO h1
   unfold told
   rw[if_neg (by omega)]
   simp
   omega
 ·cases l with
  |nil=>rfl
  |cons c r=>
   obtain⟨h1,h2,h3,h4⟩:=h
   have:=Cm.aO h1
   unfold told
   rw[if_neg (by omega)]
   simp
   omega
theorem aet:∀(l:List Cm.Cv) (ep nu:Int) (k:Nat),Cm.Good ep nu l→beg (nu+k) (told ep l)=told ep (l.take k)
 |[],_,_,_,_=>by simp[told,beg]
 |c::r,ep,nu,0,h=>by
  have hu:=abG (c::r) ep nu (nu+(c::r).length) h (Int.le_refl _)
  rw[List.take_zero]
  generalize told ep (c::r)=u at hu
  cases u with
  |nil=>rfl
  |cons s u=>
   unfold beg
   rw[if_neg (by have:=hu.2.2.1;simp;omega)]
   rfl
 |c::r,ep,nu,k+1,h=>by
  obtain⟨h1,h2,h3,h4⟩:=h
  have:=aet r c.e c.n k h4
  rw[show c.n+(k:Int)=nu+((k+1:Nat):Int)by push_cast;omega]at this
  rw[List.take_succ_cons]
  unfold told
  split
  ·exact this
  ·rw[beg,if_pos (by simp;omega),this]
theorem xX {l:List Cm.Cv}(h:Cm.Good 0 0 l){k:Nat}{c:Cm.Cv}(hc:l[k]? =some c):epo ((k:Int)+1) 0 (told 0 l)=c.e:=by
 have hk:=(List.getElem?_eq_some_iff.1 hc).1
 have:=aet l 0 0 (k+1) h
 rw[show(0:Int)+((k+1:Nat):Int)=(k:Int)+1 by push_cast;omega]at this
 rw[abT,this,aeM,List.take_add_one,hc]
 exact(Cm.iE _ c 0 0).1
theorem acE {l m:List Cm.Cv}(hl:Cm.Good 0 0 l)(hm:Cm.Good 0 0 m){k:Nat}(h1:k≤l.length)(h2:k≤m.length)(hf:l.take k=m.take k)(hn:∀(i:Nat) (c d:Cm.Cv),k≤i→l[i]? =some c→m[i]? =some d→c.e≠d.e):Fk (told 0 l) l.length (told 0 m) m.length k:=by
 refine⟨by omega,by omega,by omega,?_,fun x g1 g2 g3=>?_⟩
 ·cases k with
  |zero=>rw[show((0:Nat):Int)=0 from rfl,ym (qa hl),ym (qa hm)]
  |succ k=>
   have e1:l[k]? =some l[k]:=List.getElem?_eq_getElem (by omega)
   have e2:m[k]? =some m[k]:=List.getElem?_eq_getElem (by omega)
   rw[show((k+1:Nat):Int)=(k:Int)+1 by push_cast;rfl,xX hl e1,xX hm e2]
   have:=congrArg (fun u=>u[k]?) hf
   simp only[List.getElem?_take]at this
   rw[if_pos (by omega),if_pos (by omega),e1,e2]at this
   simp at this
   rw[this]
 ·obtain⟨i,rfl⟩:∃i:Nat,x=(i:Int)+1:=⟨(x-1).toNat,by omega⟩
  have e1:l[i]? =some l[i]:=List.getElem?_eq_getElem (by omega)
  have e2:m[i]? =some m[i]:=List.getElem?_eq_getElem (by omega)
  rw[xX hl e1,xX hm e2]
  exact hn i _ _ (by omega) e1 e2
def grw (l:List S) (e n:Int):List S:=if e=dH l then l else l++[(e,n)]
theorem anR (l:List Cm.Cv)(c:Cm.Cv):told 0 (l++[c])=grw (told 0 l) c.e c.n:=by
 unfold grw
 rw[ame,aeM]
end Go.Proofs.YtmngcecomcadkaaGreatDoor.Sm
namespace Go.Proofs.YtmngcecomcadkaaGreatDoor
theorem kV {α:Type}{l:List α}{k:Nat}(h:k<l.length):∃s,l[k]? =some s:=⟨l[k],List.getElem?_eq_getElem h⟩
end Go.Proofs.YtmngcecomcadkaaGreatDoor
namespace Go.Proofs.YtmngcecomcadkaaGreatDoor
set_option linter.unusedVariables false
namespace Fm
def bT (r:List Int):List Int:=Vm.enc r.length++r
theorem kJ (r:List Int):(bT r).length=Vm.sz r.length+r.length:=by unfold bT Vm.sz;rw[List.length_append]
theorem ahw (r:List Int):1≤(bT r).length:=by have:=Vm.tH r.length;rw[kJ];omega
theorem cB {n:Nat}(h:n≤131072):Vm.sz n≤3:=Vm.nT 2 n (by omega)
theorem tu {r s bs:List Int}(h:bT r<+:bs)(h':bT s<+:bs):r=s:=by
 obtain⟨t,ht⟩:=h
 obtain⟨u,hu⟩:=h'
 unfold bT at ht hu
 have hl:r.length=s.length:=Vm.bQ bs _ _ ⟨r++t,by rw[←List.append_assoc];exact ht⟩ ⟨s++u,by rw[←List.append_assoc];exact hu⟩
 rw[←hu,hl,List.append_assoc,List.append_assoc]at ht
 have:=List.append_cancel_left ht
 exact(List.append_inj this hl).1
def Rd (bs r:List Int) (n:Nat) (e:Int):Prop:=
 (e=0∧r.length≤131072∧n=Vm.sz r.length+r.length∧bT r<+:bs)∨(e=5∧r=[]∧n=0∧∀s:List Int,s.length≤131072→¬bT s<+:bs)
theorem awk {bs:List Int}{x:Nat}(h:Vm.enc x<+:bs)(hx:x≤bs.length-Vm.sz x):((bs.drop (Vm.sz x)).take x).length=x∧bT ((bs.drop (Vm.sz x)).take x)<+:bs:=by
 have hl:((bs.drop (Vm.sz x)).take x).length=x:=by rw[List.length_take,List.length_drop];omega
 refine⟨hl,?_⟩
 obtain⟨t,ht⟩:=h
 have hd:bs.drop (Vm.sz x)=t:=by rw[←ht];exact List.drop_left
 unfold bT
 rw[hl]
 rw[hd]at*
 exact⟨t.drop x,by rw[List.append_assoc,List.take_append_drop];exact ht⟩
theorem abB {bs r:List Int}(h:bT r<+:bs):Vm.enc r.length<+:bs∧r.length≤bs.length-Vm.sz r.length∧Vm.sz r.length+r.length≤bs.length:=by
 have hl:=h.length_le
 rw[kJ]at hl
 refine⟨(List.prefix_append _ _).trans h,by omega,hl⟩
def cat:List (List Int)→List Int
 |[]=>[]
 |r::l=>bT r++cat l
theorem abz:∀(l m:List (List Int)),cat (l++m)=cat l++cat m
 |[],m=>rfl
 |r::l,m=>by simp[cat,abz l m]
theorem ahB (r:List Int):cat [r]=bT r:=by simp[cat]
theorem ani {a b c:List Int}(h:a++b<+:c):b<+:c.drop a.length:=by
 obtain⟨t,ht⟩:=h
 rw[←ht,List.append_assoc,List.drop_left]
 exact List.prefix_append _ _
end Fm
end Go.Proofs.YtmngcecomcadkaaGreatDoor
namespace Go.Proofs.YtmngcecomcadkaaGreatDoor
set_option linter.unusedVariables false
namespace Pm
structure Pg where
 e:Int
 r:Int
 a:Int
 p:Int
 f:Int
 b:Int
theorem Pg.eq {x y:Pg}(h1:x.e=y.e)(h2:x.r=y.r)(h3:x.a=y.a)(h4:x.p=y.p)(h5:x.f=y.f)(h6:x.b=y.b):x=y:=by
 cases x;cases y;simp at*;exact⟨h1,h2,h3,h4,h5,h6⟩
def no:Pg:=⟨0,0,0,0,0,0⟩
abbrev Bnd (x:Pg):Prop:=1≤x.e∧x.e≤1048576∧0≤x.a∧x.a≤1048576∧0≤x.f∧x.f≤1048576∧0≤x.b∧x.b≤1073741824
abbrev Own (x:Pg):Prop:=
 (x.r=1∧x.p=0∧x.f=0∧x.b=0)∨(x.r=2∧x.a=0∧x.p=0∧x.f=0∧x.b=0)∨(x.r=3∧x.a=0∧x.p=1∧x.f=0∧x.b=0)∨(x.r=3∧x.a=0∧2≤x.p∧x.p≤4)
abbrev Ok (x:Pg):Prop:=Bnd x∧Own x
def chk (x:Pg):Int:=if Ok x then 0 else 2
theorem fZ {x:Pg}(h:Ok x):chk x=0:=if_pos h
theorem ik {x:Pg}(h:¬Ok x):chk x=2:=if_neg h
theorem fM {x:Pg}:chk x=0↔Ok x:=by
 by_cases h:Ok x
 ·exact⟨fun _=>h,fun _=>fZ h⟩
 ·exact⟨fun k=>by rw[ik h]at k;exact absurd k (by decide),fun k=>absurd k h⟩
theorem l9 {x:Pg}(h:Ok x):1≤x.e∧x.e≤1048576∧1≤x.r∧x.r≤3∧0≤x.a∧x.a≤1048576∧0≤x.p∧x.p≤4∧0≤x.f∧x.f≤1048576∧0≤x.b∧x.b≤1073741824:=by
 obtain⟨⟨h1,h2,h3,h4,h5,h6,h7,h8⟩,h9⟩:=h
 unfold Own at h9
 omega
def nums (x:Pg):List Int:=[x.e,x.r,x.a,x.p,x.f,x.b]
def encs:List Int→List Int
 |[]=>[]
 |z::l=>Vm.enc z.toNat++encs l
theorem zy:∀l m:List Int,encs (l++m)=encs l++encs m
 |[],m=>rfl
 |z::l,m=>by simp[encs,zy l m]
def enc (x:Pg):List Int:=encs (nums x)
theorem afI:∀{l:List Int},(∀z∈l,z<18446744073709551616)→(encs l).length≤10*l.length∧l.length≤(encs l).length
 |[],_=>by simp[encs]
 |z::l,h=>by
  have h1:=afI (l:=l) (fun y hy=>h y (by simp[hy]))
  have h2:=h z (by simp)
  have h3:=Vm.kH (x:=z.toNat) (by omega)
  have h4:=Vm.tH z.toNat
  unfold Vm.sz at h3 h4
  simp[encs]
  omega
theorem ab4 {x:Pg}(h:Ok x):(enc x).length≤60:=by
 have:=l9 h
 have:=(afI (l:=nums x) (fun z hz=>by simp[nums]at hz;omega)).1
 exact this
def Ls (bs:List Int) (z x:Pg) (n:Nat):Prop:=
 ∃l:List Pg,(∀y∈l,Ok y)∧Fm.cat (l.map enc)<+:bs∧n=(Fm.cat (l.map enc)).length∧x=l.getLast?.getD z∧∀y,Ok y→¬Fm.bT (enc y)<+:bs.drop n
def Go (bs:List Int) (z x:Pg) (n:Nat):Prop:=
 ∃l:List Pg,(∀y∈l,Ok y)∧Fm.cat (l.map enc)<+:bs∧n=(Fm.cat (l.map enc)).length∧x=l.getLast?.getD z
end Pm
end Go.Proofs.YtmngcecomcadkaaGreatDoor
namespace Go.Proofs.YtmngcecomcadkaaGreatDoor.Mm
set_option linter.unusedVariables false
structure gQ where
 k:Int
 e:Int
 r:Int
 n:Int
 ss:List Sm.S
 f:Int
 p:Int
 cs:List Cm.Cv
def Hel (m:gQ):Prop:=1≤m.r∧m.r≤3∧Sm.Ok m.ss m.n∧Sm.dH m.ss≤m.e∧m.f=0∧m.p=0∧m.cs=[]
def Shp (m:gQ):Prop:=1≤m.f∧m.f≤1048576∧0≤m.p∧m.p≤m.e∧(m.p=0↔m.f=1)∧m.cs.length≤4∧(∀c∈m.cs,c.e≤m.e)∧Cm.Good m.p (m.f-1) m.cs∧m.r=0∧m.n=0∧m.ss=[]
def Ack (m:gQ):Prop:=0≤m.n∧m.n≤1048576∧m.r=0∧m.ss=[]∧m.f=0∧m.p=0∧m.cs=[]
def Ok (m:gQ):Prop:=1≤m.e∧m.e≤1048576∧((m.k=1∧Hel m)∨(m.k=2∧Shp m)∨(m.k=3∧Ack m))
def Ck (m:gQ) (c:Int):Prop:=(c=0∧Ok m)∨(c=2∧¬Ok m)
end Go.Proofs.YtmngcecomcadkaaGreatDoor.Mm
namespace Go.Proofs.YtmngcecomcadkaaGreatDoor
set_option linter.unusedVariables false
namespace Wl
open Cm
def rec (c:Cv):List Int:=iB c.e c.n c.l
def fr (c:Cv):List Int:=Fm.bT (rec c)
def aR (l:List Cv):List Int:=Fm.cat (l.map rec)
theorem nK (c:Cv)(l:List Cv):aR (c::l)=fr c++aR l:=rfl
theorem kL (l m:List Cv):aR (l++m)=aR l++aR m:=by unfold aR;rw[List.map_append,Fm.abz]
theorem yt (c:Cv):aR [c]=fr c:=by unfold aR fr;exact Fm.ahB _
theorem xG {c:Cv}(h:chk c.e c.n c.l=0):(rec c).length≤430:=abh h
theorem nN {c:Cv}(h:chk c.e c.n c.l=0):(fr c).length≤433:=by
 have:=xG h
 unfold fr
 rw[Fm.kJ]
 have:=Fm.cB (n:=(rec c).length) (by omega)
 omega
theorem afO {c d:Cv}{bs:List Int}(hc:chk c.e c.n c.l=0)(hd:chk d.e d.n d.l=0)(h:fr c<+:bs)(h':fr d<+:bs):c=d:=by
 obtain⟨e1,e2,e3⟩:=aph hc hd (Fm.tu h h')
 cases c
 cases d
 simp only at e1 e2 e3
 rw[e1,e2,e3]
def Lg (ep nu:Int) (bs:List Int) (l:List Cv):Prop:=
 Cm.Good ep nu l∧aR l<+:bs∧∀c,Cm.Good (lastE ep l) (lastN nu l) [c]→¬fr c<+:bs.drop (aR l).length
theorem akN {ep nu:Int}{c:Cv}{l:List Cv}:Cm.Good ep nu (c::l)↔Cm.Good ep nu [c]∧Cm.Good c.e c.n l:=by
 have:=fI [c] l ep nu
 rw[List.singleton_append]at this
 exact this
theorem amD {ep nu:Int}{c:Cv}{l:List Cv}(h:Cm.Good ep nu (c::l)):chk c.e c.n c.l=0:=h.1
theorem aeP (l:List Cv)(k:Nat):aR (l.take k)=(aR l).take (aR (l.take k)).length:=by
 have:aR l=aR (l.take k)++aR (l.drop k):=by rw[←kL,List.take_append_drop]
 rw[this,List.take_left]
end Wl
end Go.Proofs.YtmngcecomcadkaaGreatDoor
namespace Go.Proofs.YtmngcecomcadkaaGreatDoor
set_option linter.unusedVariables false
namespace Orp
open Vm Bm
open Cm (Cv Good fol lastE lastN)
structure Se where
 e:Int
 f:Int
 cs:List Cv
def chk (s:Se):Int:=if s.e<1∨1048576<s.e∨s.f<0∨s.cs.length=0 then 2 else if (fol 1 s.f 0 s.cs).1=0 then(if s.e≤lastE 1 s.cs then 15 else 0)else(fol 1 s.f 0 s.cs).1
theorem arU {s:Se}(h:s.e<1∨1048576<s.e∨s.f<0∨s.cs.length=0):chk s=2:=if_pos h
theorem ary {s:Se}(h:¬(s.e<1∨1048576<s.e∨s.f<0∨s.cs.length=0))(h':(fol 1 s.f 0 s.cs).1≠0):chk s=(fol 1 s.f 0 s.cs).1:=by unfold chk;rw[if_neg h,if_neg h']
theorem arT {s:Se}(h:¬(s.e<1∨1048576<s.e∨s.f<0∨s.cs.length=0))(h':(fol 1 s.f 0 s.cs).1=0)(h2:s.e≤lastE 1 s.cs):chk s=15:=by unfold chk;rw[if_neg h,if_pos h',if_pos h2]
theorem fZ {s:Se}(h:¬(s.e<1∨1048576<s.e∨s.f<0∨s.cs.length=0))(h':(fol 1 s.f 0 s.cs).1=0)(h2:¬s.e≤lastE 1 s.cs):chk s=0:=by unfold chk;rw[if_neg h,if_pos h',if_neg h2]
theorem acY:∀{l:List Cv} {ep nu:Int},Good ep nu l→(l=[]∨nu+l.length≤1048576)∧∀c∈l,Cm.chk c.e c.n c.l=0
 |[],_,_,_=>⟨.inl rfl,fun c hc=>by simp at hc⟩
 |c::r,ep,nu,⟨h1,h2,h3,h4⟩=>by
  obtain⟨g1,g2⟩:=acY h4
  obtain⟨_,_,_,h5,_⟩:=Cm.aO h1
  refine⟨.inr ?_,fun d hd=>?_⟩
  ·rcases g1 with rfl|g1
   ·simp;omega
   ·rw[List.length_cons];omega
  ·rcases List.mem_cons.1 hd with rfl|hd
   ·exact h1
   ·exact g2 d hd
theorem aO {s:Se}(h:chk s=0):1≤s.e∧s.e≤1048576∧0≤s.f∧s.f≤1048576∧1≤s.cs.length∧s.cs.length≤1048576∧Good 1 s.f s.cs∧lastE 1 s.cs<s.e∧∀c∈s.cs,Cm.chk c.e c.n c.l=0:=by
 unfold chk at h
 split at h
 ·simp at h
 ·rename_i h1
  split at h
  ·rename_i h2
   split at h
   ·simp at h
   ·have g:=(Cm.dZ _ _ _ _).1 h2
    obtain⟨g1,g2⟩:=acY g
    rcases g1 with g1|g1
    ·rw[g1]at h1;simp at h1
    ·exact⟨by omega,by omega,by omega,by omega,by omega,by omega,g,by omega,g2⟩
  ·rename_i h2
   exact absurd h h2
def hdr (s:Se):List Int:=enc s.e.toNat++(enc s.f.toNat++enc s.cs.length)
def sec (s:Se):List Int:=Fm.bT (hdr s)++Wl.aR s.cs
def out (s:Se):List Int:=if chk s=0 then sec s else []
theorem jd {s:Se}(h:chk s=0):out s=sec s:=if_pos h
theorem oh {s:Se}(h:chk s≠0):out s=[]:=if_neg h
theorem wJ {s:Se}(h:chk s=0):(hdr s).length≤9:=by
 obtain⟨h1,h2,h3,h4,h5,h6,_⟩:=aO h
 have a:=Cm.gy (x:=s.e) (by omega)
 have b:=Cm.gy (x:=s.f) (by omega)
 have c:(enc s.cs.length).length≤3:=nT 2 _ (by omega)
 unfold hdr
 rw[List.length_append,List.length_append]
 omega
theorem vW:∀{l:List Cv},(∀c∈l,Cm.chk c.e c.n c.l=0)→(Wl.aR l).length≤433*l.length
 |[],_=>by simp[Wl.aR,Fm.cat]
 |c::l,h=>by
  have h1:=Wl.nN (h c (by simp))
  have h2:=vW (l:=l) fun d hd=>h d (by simp[hd])
  rw[Wl.nK,List.length_append,List.length_cons]
  omega
theorem aaB {s:Se}(h:chk s=0):(sec s).length≤10+433*s.cs.length:=by
 have h1:=wJ h
 have h2:=vW (aO h).2.2.2.2.2.2.2.2
 have h3:sz (hdr s).length≤1:=nT 0 _ (by omega)
 unfold sec
 rw[List.length_append,Fm.kJ]
 omega
theorem yf (s:Se):1≤(sec s).length:=by
 have:=Fm.ahw (hdr s)
 unfold sec
 rw[List.length_append]
 omega
theorem o9 {s:Se}{bs:List Int}(h:hdr s<+:bs):enc s.e.toNat<+:bs∧enc s.f.toNat<+:bs.drop (sz s.e.toNat)∧enc s.cs.length<+:bs.drop (sz s.e.toNat+sz s.f.toNat):=by
 unfold hdr at h
 rw[bz,bz,List.drop_drop]at h
 exact h
theorem zT:∀(l m:List Cv) (bs:List Int),l.length=m.length→(∀c∈l,Cm.chk c.e c.n c.l=0)→(∀c∈m,Cm.chk c.e c.n c.l=0)→Wl.aR l<+:bs→Wl.aR m<+:bs→l=m
 |[],[],_,_,_,_,_,_=>rfl
 |[],_::_,_,h,_,_,_,_=>by simp at h
 |_::_,[],_,h,_,_,_,_=>by simp at h
 |c::l,d::m,bs,hl,h1,h2,h,g=>by
  rw[Wl.nK,bz]at h g
  have e:=Wl.afO (h1 c (by simp)) (h2 d (by simp)) h.1 g.1
  subst e
  rw[zT l m _ (by simpa using hl) (fun x hx=>h1 x (by simp[hx])) (fun x hx=>h2 x (by simp[hx])) h.2 g.2]
def No (bs:List Int):Prop:=∀t,chk t=0→¬sec t<+:bs
def zo (h:List Int):Prop:=∀t,chk t=0→hdr t≠h
theorem au3 {bs:List Int}(h:∀r:List Int,r.length≤131072→¬Fm.bT r<+:bs):No bs:=fun t ht hp=>by
 have:=wJ ht
 exact h (hdr t) (by omega) ((List.prefix_append _ _).trans hp)
theorem atE {bs h:List Int}(hp:Fm.bT h<+:bs)(hn:zo h):No bs:=fun t ht hq=>
 hn t ht (Fm.tu ((List.prefix_append _ _).trans hq) hp)
theorem axX {h:List Int}(k:∀x:Nat,x≤1048576→¬enc x<+:h):zo h:=fun t ht he=>by
 obtain⟨h1,h2,h3,h4,h5,h6,_⟩:=aO ht
 exact k t.e.toNat (by omega) (o9 (he▸List.prefix_rfl:hdr t<+:h)).1
theorem ax6 {h:List Int}{x:Nat}(hx:enc x<+:h)(k:∀y:Nat,y≤1048576→¬enc y<+:h.drop (sz x)):zo h:=fun t ht he=>by
 obtain⟨h1,h2,h3,h4,h5,h6,_⟩:=aO ht
 obtain⟨p1,p2,_⟩:=o9 (he▸List.prefix_rfl:hdr t<+:h)
 rw[←bQ _ _ _ hx p1]at p2
 exact k t.f.toNat (by omega) p2
theorem axZ {h:List Int}{x y:Nat}(hx:enc x<+:h)(hy:enc y<+:h.drop (sz x))(k:∀m:Nat,m≤1048576→¬enc m<+:h.drop (sz x+sz y)):zo h:=fun t ht he=>by
 obtain⟨h1,h2,h3,h4,h5,h6,_⟩:=aO ht
 obtain⟨p1,p2,p3⟩:=o9 (he▸List.prefix_rfl:hdr t<+:h)
 rw[←bQ _ _ _ hx p1]at p2 p3
 rw[←bQ _ _ _ hy p2]at p3
 exact k t.cs.length (by omega) p3
theorem arK (s:Se):(hdr s).length=sz s.e.toNat+sz s.f.toNat+sz s.cs.length:=by
 unfold hdr
 rw[List.length_append,List.length_append]
 unfold sz
 omega
theorem axL {h:List Int}{x y m:Nat}(hx:enc x<+:h)(hy:enc y<+:h.drop (sz x))(hm:enc m<+:h.drop (sz x+sz y))(hl:sz x+sz y+sz m≠h.length):zo h:=fun t ht he=>by
 obtain⟨p1,p2,p3⟩:=o9 (he▸List.prefix_rfl:hdr t<+:h)
 have e1:=bQ _ _ _ hx p1
 rw[←e1]at p2 p3
 have e2:=bQ _ _ _ hy p2
 rw[←e2]at p3
 have e3:=bQ _ _ _ hm p3
 apply hl
 rw[←he,arK,←e1,←e2,←e3]
theorem avI {h:List Int}{x y m:Nat}(hx:enc x<+:h)(hy:enc y<+:h.drop (sz x))(hm:enc m<+:h.drop (sz x+sz y))(hl:sz x+sz y+sz m=h.length):enc x++(enc y++enc m)=h:=by
 have:enc x++(enc y++enc m)<+:h:=by
  rw[bz,bz,List.drop_drop]
  exact⟨hx,hy,hm⟩
 refine this.eq_of_length ?_
 rw[List.length_append,List.length_append,←hl]
 unfold sz
 omega
theorem ahE {s:Se}{x y m:Nat}(h:hdr s=enc x++(enc y++enc m)):s.e.toNat=x∧s.f.toNat=y∧s.cs.length=m:=by
 have q:enc x++(enc y++enc m)<+:hdr s:=by rw[h];exact List.prefix_rfl
 rw[bz,bz,List.drop_drop]at q
 obtain⟨q1,q2,q3⟩:=q
 obtain⟨p1,p2,p3⟩:=o9 (s:=s) List.prefix_rfl
 have e1:=bQ _ _ _ q1 p1
 change enc y<+:(hdr s).drop (sz x)at q2
 change enc m<+:(hdr s).drop (sz x+sz y)at q3
 rw[←e1]at p2 p3
 have e2:=bQ _ _ _ q2 p2
 rw[←e2]at p3
 exact⟨e1.symm,e2.symm,(bQ _ _ _ q3 p3).symm⟩
theorem avo {bs:List Int}{x y m:Nat}{l:List Cv}(hh:Fm.bT (enc x++(enc y++enc m))<+:bs)(hl:Wl.aR l<+:bs.drop (Fm.bT (enc x++(enc y++enc m))).length)(hc:∀c∈l,Cm.chk c.e c.n c.l=0)(hlt:l.length<m)
  (k:∀c:Cv,Cm.chk c.e c.n c.l=0→¬Wl.fr c<+:bs.drop ((Fm.bT (enc x++(enc y++enc m))).length+(Wl.aR l).length)):No bs:=fun t ht hp=>by
 obtain⟨h1,h2,h3,h4,h5,h6,_,_,h7⟩:=aO ht
 unfold sec at hp
 rw[bz]at hp
 have e:=Fm.tu hp.1 hh
 obtain⟨_,_,e3⟩:=ahE e
 rw[e]at hp
 have p4:=hp.2
 have hlr:l.length<t.cs.length:=by omega
 have hs:t.cs=t.cs.take l.length++(t.cs[l.length]::t.cs.drop (l.length+1)):=by rw[←List.drop_eq_getElem_cons hlr,List.take_append_drop]
 rw[hs,Wl.kL,bz]at p4
 have hq:=zT l (t.cs.take l.length) _ (by rw[List.length_take];omega) hc (fun o ho=>h7 o (List.mem_of_mem_take ho)) hl p4.1
 have p5:=p4.2
 rw[←hq,List.drop_drop,Wl.nK]at p5
 exact k t.cs[l.length] (h7 _ (List.getElem_mem hlr)) ((List.prefix_append _ _).trans p5)
theorem aeA {bs:List Int}{x y:Nat}{l:List Cv}(hh:Fm.bT (enc x++(enc y++enc l.length))<+:bs)(hl:Wl.aR l<+:bs.drop (Fm.bT (enc x++(enc y++enc l.length))).length)(hc:∀c∈l,Cm.chk c.e c.n c.l=0)
  {t:Se} (ht:chk t=0) (hp:sec t<+:bs):t=⟨x,y,l⟩:=by
 obtain⟨h1,h2,h3,h4,h5,h6,_,_,h7⟩:=aO ht
 unfold sec at hp
 rw[bz]at hp
 have e:=Fm.tu hp.1 hh
 obtain⟨e1,e2,e3⟩:=ahE e
 rw[e]at hp
 have e4:=zT t.cs l _ e3 h7 hc hp.2 hl
 obtain⟨te,tf,tc⟩:=t
 simp only at e1 e2 e4 h1 h3
 rw[Se.mk.injEq]
 exact⟨by omega,by omega,e4⟩
theorem avX {bs:List Int}{x y:Nat}{l:List Cv}(hh:Fm.bT (enc x++(enc y++enc l.length))<+:bs)(hl:Wl.aR l<+:bs.drop (Fm.bT (enc x++(enc y++enc l.length))).length)(hc:∀c∈l,Cm.chk c.e c.n c.l=0)(hk:chk ⟨x,y,l⟩≠0):No bs:=fun t ht hp=>by
 rw[aeA hh hl hc ht hp]at ht
 exact hk ht
theorem avz {bs:List Int}{x y:Nat}{l:List Cv}(hh:Fm.bT (enc x++(enc y++enc l.length))<+:bs)(hl:Wl.aR l<+:bs.drop (Fm.bT (enc x++(enc y++enc l.length))).length):sec ⟨x,y,l⟩<+:bs∧(sec ⟨x,y,l⟩).length=(Fm.bT (enc x++(enc y++enc l.length))).length+(Wl.aR l).length:=by
 have e:hdr ⟨x,y,l⟩=enc x++(enc y++enc l.length):=by unfold hdr;simp
 unfold sec
 rw[e]
 exact⟨bz.2 ⟨hh,hl⟩,List.length_append⟩
theorem abR {s t:Se}{bs:List Int}(hs:chk s=0)(ht:chk t=0)(h:sec s<+:bs)(h':sec t<+:bs):s=t:=by
 obtain⟨h1,h2,h3,h4,h5,h6,_,_,h7⟩:=aO hs
 have e:hdr s=enc s.e.toNat++(enc s.f.toNat++enc s.cs.length):=rfl
 have p:=bz.1 h
 rw[e]at p
 have:=aeA p.1 p.2 h7 ht h'
 rw[this]
 obtain⟨se,sf,sc⟩:=s
 simp only at h1 h3
 rw[Se.mk.injEq]
 exact⟨by simp;omega,by simp;omega,rfl⟩
def Rd (bs:List Int) (s:Se) (n:Nat) (g:Bool):Prop:=(g=true∧chk s=0∧sec s<+:bs∧n=(sec s).length)∨(g=false∧No bs)
def Ris (a:Int):List Se→Prop
 |[]=>True
 |s::r=>chk s=0∧a<s.e∧Ris s.e r
def kg (a:Int):List Se→Int
 |[]=>a
 |s::r=>kg s.e r
def secs:List Se→List Int
 |[]=>[]
 |s::r=>sec s++secs r
theorem am8 {a:Int}{s:Se}{l:List Se}:Ris a (s::l)↔Ris a [s]∧Ris s.e l:=by simp[Ris,and_assoc]
theorem xS:∀(l m:List Se) (a:Int),Ris a (l++m)↔Ris a l∧Ris (kg a l) m
 |[],m,a=>by simp[Ris,kg]
 |s::r,m,a=>by simp only[List.cons_append,Ris,kg,xS r m];constructor<;>(rintro⟨_,_⟩;simp_all)
theorem jE:∀(l:List Se) (s:Se) (a:Int),kg a (l++[s])=s.e
 |[],_,_=>rfl
 |q::r,s,a=>by simpa[kg]using jE r s q.e
theorem agV:∀{l:List Se} {a:Int},Ris a l→∀s∈l,chk s=0
 |[],_,_,s,hs=>by simp at hs
 |q::r,a,h,s,hs=>by
  rcases List.mem_cons.1 hs with rfl|hs
  ·exact h.1
  ·exact agV h.2.2 s hs
theorem lW (s:Se)(l:List Se):secs (s::l)=sec s++secs l:=rfl
theorem lC:∀(l m:List Se),secs (l++m)=secs l++secs m
 |[],_=>rfl
 |s::l,m=>by rw[List.cons_append,lW,lW,lC l m,List.append_assoc]
theorem nO (s:Se):secs [s]=sec s:=by simp[secs]
theorem aeu:∀(l:List Se),l.length≤(secs l).length
 |[]=>by simp
 |s::l=>by
  have:=aeu l
  have:=yf s
  rw[lW,List.length_append,List.length_cons]
  omega
def Sn (a:Int) (bs:List Int) (l:List Se):Prop:=Ris a l∧secs l<+:bs∧∀t,Ris (kg a l) [t]→¬sec t<+:bs.drop (secs l).length
theorem yA {a:Int}{bs:List Int}{s:Se}{l:List Se}(h:Sn a bs (s::l)):Ris a [s]∧sec s<+:bs∧Sn s.e (bs.drop (sec s).length) l:=by
 obtain⟨h1,h2,h3⟩:=h
 rw[lW]at h2
 obtain⟨g1,g2⟩:=am8.1 h1
 refine⟨g1,(List.prefix_append _ _).trans h2,g2,Fm.ani h2,fun d hd=>?_⟩
 rw[List.drop_drop,←List.length_append,←lW]
 exact h3 d hd
theorem sN:∀{l m:List Se} {a:Int} {bs:List Int},Sn a bs l→Sn a bs m→l=m
 |[],[],_,_,_,_=>rfl
 |[],c::m,a,bs,h,h'=>by
  obtain⟨h1,h2,_⟩:=yA h'
  exact absurd h2 (h.2.2 c h1)
 |c::l,[],a,bs,h,h'=>by
  obtain⟨h1,h2,_⟩:=yA h
  exact absurd h2 (h'.2.2 c h1)
 |c::l,d::m,a,bs,h,h'=>by
  obtain⟨h1,h2,h3⟩:=yA h
  obtain⟨g1,g2,g3⟩:=yA h'
  have e:=abR h1.1 g1.1 h2 g2
  subst e
  rw[sN h3 g3]
theorem avJ {l:List Se}{a:Int}{k n:Nat}(h:Ris a l)(hn:n≤l.length)(h1:(secs (l.take n)).length≤k)(h2:n<l.length→k<(secs (l.take (n+1))).length)(h3:k≤(secs l).length):Sn a ((secs l).take k) (l.take n):=by
 have hs:secs l=secs (l.take n)++secs (l.drop n):=by rw[←lC,List.take_append_drop]
 have hr:=h
 rw[←List.take_append_drop n l,xS]at hr
 have ht:(secs l).take k=secs (l.take n)++(secs (l.drop n)).take (k-(secs (l.take n)).length):=by
  rw[hs,List.take_append,List.take_of_length_le h1]
 refine⟨hr.1,?_,fun t hR hp=>?_⟩
 ·rw[ht];exact List.prefix_append _ _
 ·rw[ht,List.drop_left]at hp
  by_cases hlt:n<l.length
  ·have hd:l.drop n=l[n]::l.drop (n+1):=List.drop_eq_getElem_cons hlt
   have hk:=h2 hlt
   rw[List.take_succ_eq_append_getElem hlt,lC,nO,List.length_append]at hk
   have hq:sec t<+:secs (l.drop n):=hp.trans (List.take_prefix _ _)
   have e:=abR hR.1 (agV h l[n] (List.getElem_mem hlt)) hq (by rw[hd,lW];exact List.prefix_append _ _)
   have:=hp.length_le
   rw[e,List.length_take]at this
   omega
  ·have hd:l.drop n=[]:=List.drop_eq_nil_of_le (by omega)
   rw[hd]at hp
   have h4:=hp.length_le
   have h5:=yf t
   rw[show secs []=[]from rfl,List.take_nil,List.length_nil]at h4
   omega
theorem qc {a:Int}{l:List Se}(h:Ris a l):Sn a (secs l) l:=by
 have:=avJ (k:=(secs l).length) (n:=l.length) h (Nat.le_refl _) (by rw[List.take_length];exact Nat.le_refl _) (fun h=>absurd h (Nat.lt_irrefl _)) (Nat.le_refl _)
 rwa[List.take_length,List.take_length]at this
def has (l:List Se) (e n:Int):Bool:=l.any fun s=>s.cs.any fun c=>c.e==e&&c.n==n
end Orp
end Go.Proofs.YtmngcecomcadkaaGreatDoor
namespace Go.Proofs.YtmngcecomcadkaaGreatDoor.Dm
set_option linter.unusedVariables false
structure Rw where
 file:Nat
 cut:Bool
 to:Nat
 bytes:List Int
structure Ds where
 sure:Nat→List Int
 wait:List Rw
 on:Bool
 has:Bool
 left:Nat
 count:Nat
def upd (s:Nat→List Int) (f:Nat) (x:List Int):Nat→List Int:=fun j=>if j=f then x else s j
theorem ae1 (s:Nat→List Int)(f:Nat)(x:List Int):upd s f x f=x:=by simp[upd]
theorem alO {s:Nat→List Int}{f j:Nat}{x:List Int}(h:j≠f):upd s f x j=s j:=by simp[upd,h]
def mV (b:List Int) (r:Rw):List Int:=if r.cut then b.take r.to else b++r.bytes
def one (s:Nat→List Int) (r:Rw):Nat→List Int:=upd s r.file (mV (s r.file) r)
def dof (s:Nat→List Int):List Rw→Nat→List Int
 |[]=>s
 |r::l=>dof (one s r) l
theorem ahy:∀(l m:List Rw) (s:Nat→List Int),dof s (l++m)=dof (dof s l) m
 |[],_,_=>rfl
 |r::l,m,s=>ahy l m (one s r)
theorem anr (l:List Rw)(r:Rw)(s:Nat→List Int):dof s (l++[r])=one (dof s l) r:=ahy l [r] s
def hold (f:Nat) (b:List Int):List Rw→List Int
 |[]=>b
 |r::l=>hold f (if r.file=f then mV b r else b) l
theorem jD:∀(l:List Rw) (s:Nat→List Int) (f:Nat),hold f (s f) l=dof s l f
 |[],_,_=>rfl
 |r::l,s,f=>by
  rw[hold,dof,←jD l (one s r) f]
  congr 1
  by_cases h:r.file=f
  ·subst h;rw[if_pos rfl,one,ae1]
  ·rw[if_neg h,one,alO (Ne.symm h)]
theorem aaa:∀(l m:List Rw) (b:List Int) (f:Nat),hold f b (l++m)=hold f (hold f b l) m
 |[],_,_,_=>rfl
 |r::l,m,b,f=>aaa l m _ f
theorem oF (l:List Rw)(r:Rw)(b:List Int)(f:Nat):hold f b (l++[r])=if r.file=f then mV (hold f b l) r else hold f b l:=aaa l [r] b f
def fits (s:Nat→List Int) (r:Rw):Prop:=r.file<4∧(r.cut=true→r.to≤(s r.file).length)∧(r.cut=false→1≤r.bytes.length∧r.bytes.length≤64)
def valid (s:Nat→List Int):List Rw→Prop
 |[]=>True
 |r::l=>fits s r∧valid (one s r) l
theorem qQ:∀(l m:List Rw) (s:Nat→List Int),valid s (l++m)↔valid s l∧valid (dof s l) m
 |[],_,_=>by simp[valid,dof]
 |r::l,m,s=>by simp[valid,dof,qQ l m,and_assoc]
theorem aeZ {l:List Rw}{s:Nat→List Int}(h:valid s l){k:Nat}{r:Rw}(hk:l[k]? =some r):fits (dof s (l.take k)) r:=by
 obtain⟨hlt,rfl⟩:=List.getElem?_eq_some_iff.1 hk
 rw[←List.take_append_drop k l,qQ,List.drop_eq_getElem_cons hlt]at h
 exact h.2.1
def gm:List Rw→Nat
 |[]=>0
 |r::l=>r.bytes.length+gm l
theorem zU:∀(l m:List Rw),gm (l++m)=gm l+gm m
 |[],_=>by simp[gm]
 |r::l,m=>by simp[gm,zU l m];omega
theorem asQ (b:List Int)(r:Rw):(mV b r).length≤b.length+r.bytes.length:=by
 unfold mV
 split
 ·rw[List.length_take];omega
 ·simp
theorem lH:∀(l:List Rw) (b:List Int) (f:Nat),(hold f b l).length≤b.length+gm l
 |[],_,_=>by simp[hold,gm]
 |r::l,b,f=>by
  have h1:=lH l (if r.file=f then mV b r else b) f
  have h2:=asQ b r
  simp only[hold,gm]
  split at h1<;>simp_all<;>omega
def Sz (t u:Nat) (st:Ds):Prop:=(∀f,(st.sure f).length+gm st.wait≤t)∧st.wait.length≤u∧st.count≤u
def Ok (st:Ds):Prop:=valid st.sure st.wait
def off (st:Ds):Bool:=st.has&&st.left==0
def bB (st:Ds):Ds:={st with left:=if st.has then st.left-1 else st.left,count:=st.count+1}
def ig (st:Ds):Ds:={st with on:=false}
def push (st:Ds) (r:Rw):Ds:={st with wait:=st.wait++[r]}
def wrt (file:Nat):Nat→Ds→List Int→Int×Ds
 |0,st,_=>(0,st)
 |n+1,st,bs=>if bs=[]then(0,st)else if off st then(6,ig st)else wrt file n (push (bB st) ⟨file,false,0,bs.take 64⟩) (bs.drop 64)
def iW (file:Int):Bool:=decide (0≤file)&&decide (file<4)
def write (st:Ds) (file:Int) (bs:List Int):Int×Ds:=if st.on=false then(6,st)else if iW file=false then(2,st)else wrt file.toNat bs.length st bs
def cK (st:Ds) (file len:Int):Int×Ds:=if st.on=false then(6,st)else if iW file=false then(2,st)else if len<0∨(hold file.toNat (st.sure file.toNat) st.wait).length<len then(2,st)else if off st then(6,ig st)else(0,push (bB st) ⟨file.toNat,true,len.toNat,[]⟩)
def flush (st:Ds):Ds:={st with sure:=dof st.sure st.wait,wait:=[]}
def sync (st:Ds):Int×Ds:=if st.on=false then(6,st)else if off st then(6,ig st)else(0,flush (bB st))
def aad (st:Ds) (n:Int):Int×Ds:=if st.on=false then(6,st)else if n<0 then(2,st)else(0,{st with has:=true,left:=n.toNat})
def pull (st:Ds):Int×Ds:=if st.on=false then(6,st)else(0,ig st)
def new:Ds:=⟨fun _=>[],[],true,false,0,0⟩
end Go.Proofs.YtmngcecomcadkaaGreatDoor.Dm
namespace Go.Proofs.YtmngcecomcadkaaGreatDoor
set_option linter.unusedVariables false
namespace Orp
open Dm
def hl (st:Ds):List Int:=hold 3 (st.sure 3) st.wait
def wr2 (st:Ds) (s:Se):Int×Ds:=
 if (write st 3 (sec s)).1≠0 then(6,(write st 3 (sec s)).2)else if (sync (write st 3 (sec s)).2).1≠0 then(6,(sync (write st 3 (sec s)).2).2)else(0,(sync (write st 3 (sec s)).2).2)
def qy (st:Ds) (base:Int) (s:Se):Int×Ds:=
 if base<(hl st).length then(if (cK st 3 base).1≠0 then(6,(cK st 3 base).2)else wr2 (cK st 3 base).2 s)else wr2 st s
def dX (st:Ds) (base:Int) (s:Se):Int×Ds:=
 if st.on=false then(6,st)else if chk s≠0 then(chk s,st)else if base<0∨((hl st).length:Int)<base then(2,st)else qy st base s
theorem ar8 {st:Ds}{base:Int}{s:Se}(h:st.on=false):dX st base s=(6,st):=if_pos h
theorem asc {st:Ds}{base:Int}{s:Se}(h:st.on=true)(h2:chk s≠0):dX st base s=(chk s,st):=by unfold dX;rw[if_neg (by simp[h]),if_pos h2]
theorem arR {st:Ds}{base:Int}{s:Se}(h:st.on=true)(h2:chk s=0)(h3:base<0∨((hl st).length:Int)<base):dX st base s=(2,st):=by unfold dX;rw[if_neg (by simp[h]),if_neg (by simp[h2]),if_pos h3]
theorem aeo {st:Ds}{base:Int}{s:Se}(h:st.on=true)(h2:chk s=0)(h3:¬(base<0∨((hl st).length:Int)<base)):dX st base s=qy st base s:=by unfold dX;rw[if_neg (by simp[h]),if_neg (by simp[h2]),if_neg h3]
theorem arB {st:Ds}(bs:List Int):hl (push (bB st) ⟨3,false,0,bs⟩)=hl st++bs:=by
 unfold hl push bB
 simp only
 rw[oF]
 simp[mV]
theorem akP {st:Ds}(n:Nat):hl (push (bB st) ⟨3,true,n,[]⟩)=(hl st).take n:=by
 unfold hl push bB
 simp only
 rw[oF]
 simp[mV]
theorem as0:∀(n:Nat) (st:Ds) (bs:List Int),bs.length≤n→st.on=true→
  ((wrt 3 n st bs).1=0∧(wrt 3 n st bs).2.on=true∧hl (wrt 3 n st bs).2=hl st++bs∨(wrt 3 n st bs).1=6∧(wrt 3 n st bs).2.on=false)∧
  (wrt 3 n st bs).2.sure=st.sure∧(∀r∈(wrt 3 n st bs).2.wait,r∈st.wait∨r.cut=false)∧(st.has=false→(wrt 3 n st bs).1=0∧(wrt 3 n st bs).2.has=false)
 |0,st,bs,hb,ho=>by
  have:bs=[]:=List.eq_nil_of_length_eq_zero (by omega)
  subst this
  exact⟨.inl ⟨rfl,ho,by simp[wrt]⟩,rfl,fun r hr=>.inl hr,fun h=>⟨rfl,h⟩⟩
 |n+1,st,bs,hb,ho=>by
  unfold wrt
  by_cases h0:bs=[]
  ·subst h0
   rw[if_pos rfl]
   exact⟨.inl ⟨rfl,ho,by simp⟩,rfl,fun r hr=>.inl hr,fun h=>⟨rfl,h⟩⟩
  ·rw[if_neg h0]
   have hp:1≤bs.length:=by
    rcases bs with _|⟨x,bs⟩
    ·exact absurd rfl h0
    ·simp
   cases hoff:off st with
   |true=>exact⟨.inr ⟨rfl,rfl⟩,rfl,fun r hr=>.inl hr,fun h=>by simp[off,h]at hoff⟩
   |false=>
    have ih:=as0 n (push (bB st) ⟨3,false,0,bs.take 64⟩) (bs.drop 64) (by rw[List.length_drop];omega) ho
    rw[arB,List.append_assoc,List.take_append_drop]at ih
    obtain⟨h1,h2,h3,h4⟩:=ih
    refine⟨h1,h2,fun r hr=>?_,h4⟩
    rcases h3 r hr with h|h
    ·rcases List.mem_append.1 (show r∈st.wait++[_]from h)with h|h
     ·exact .inl h
     ·rw[List.mem_singleton.1 h];exact .inr rfl
    ·exact .inr h
theorem amc {st:Ds}(bs:List Int)(ho:st.on=true):write st 3 bs=wrt 3 bs.length st bs:=by
 unfold write
 rw[if_neg (by simp[ho]),if_neg (by decide)]
 rfl
structure Q (b0:List Int) (st:Ds):Prop where
 su:b0<+:st.sure 3
 cu:∀r∈st.wait,r.file=3→r.cut=true→r.to=b0.length
theorem ajI {st:Ds}{s:Se}(ho:st.on=true):((wr2 st s).1=0∧(wr2 st s).2.on=true∧(wr2 st s).2.sure 3=hl st++sec s∧(wr2 st s).2.wait=[]∨(wr2 st s).1=6∧(wr2 st s).2.on=false)∧(st.has=false→(wr2 st s).1=0∧(wr2 st s).2.has=false):=by
 obtain⟨h1,h2,h3,h4⟩:=as0 (sec s).length st (sec s) (Nat.le_refl _) ho
 unfold wr2
 rw[amc _ ho]
 rcases h1 with⟨g1,g2,g3⟩|⟨g1,g2⟩
 ·rw[if_neg (by simp[g1])]
  cases hoff:off (wrt 3 (sec s).length st (sec s)).2 with
  |true=>
   have e:sync (wrt 3 (sec s).length st (sec s)).2=(6,ig (wrt 3 (sec s).length st (sec s)).2):=by
    unfold sync
    rw[if_neg (by simp[g2]),if_pos hoff]
   rw[e,if_pos (by simp)]
   refine⟨.inr ⟨rfl,rfl⟩,fun hh=>?_⟩
   have:=(h4 hh).2
   simp[off,this]at hoff
  |false=>
   have e:sync (wrt 3 (sec s).length st (sec s)).2=(0,flush (bB (wrt 3 (sec s).length st (sec s)).2)):=by
    unfold sync
    rw[if_neg (by simp[g2]),if_neg (by simp[hoff])]
   rw[e,if_neg (by simp)]
   refine⟨.inl ⟨rfl,g2,?_,rfl⟩,fun hh=>⟨rfl,(h4 hh).2⟩⟩
   rw[←g3]
   show dof _ _ 3=_
   rw[←jD]
   rfl
 ·rw[if_pos (by simp[g1])]
  exact⟨.inr ⟨rfl,g2⟩,fun hh=>by rw[(h4 hh).1]at g1;simp at g1⟩
theorem atY {st:Ds}{s:Se}{b0:List Int}(ho:st.on=true)(hc:chk s=0)(hb:b0<+:hl st):
  ((dX st b0.length s).1=0∧(dX st b0.length s).2.on=true∧(dX st b0.length s).2.sure 3=b0++sec s∧(dX st b0.length s).2.wait=[]∨(dX st b0.length s).1=6∧(dX st b0.length s).2.on=false)∧
   (st.has=false→(dX st b0.length s).1=0∧(dX st b0.length s).2.has=false):=by
 have hle:=hb.length_le
 rw[aeo ho hc (by omega)]
 unfold qy
 by_cases hlt:(b0.length:Int)<(hl st).length
 ·rw[if_pos hlt]
  have hh:hl (push (bB st) ⟨3,true,b0.length,[]⟩)=b0:=by
   rw[akP]
   exact(List.prefix_iff_eq_take.1 hb).symm
  cases hoff:off st with
  |true=>
   have e:cK st 3 b0.length=(6,ig st):=by
    unfold cK
    rw[if_neg (by simp[ho]),if_neg (by decide),if_neg ?_,if_pos hoff]
    unfold hl at hlt
    simp
    omega
   rw[e,if_pos (by simp)]
   exact⟨.inr ⟨rfl,rfl⟩,fun h=>by simp[off,h]at hoff⟩
  |false=>
   have e:cK st 3 b0.length=(0,push (bB st) ⟨3,true,b0.length,[]⟩):=by
    unfold cK
    rw[if_neg (by simp[ho]),if_neg (by decide),if_neg ?_,if_neg (by simp[hoff])]
    ·rfl
    ·unfold hl at hlt
     simp
     omega
   rw[e,if_neg (by simp)]
   have:=ajI (st:=push (bB st) ⟨3,true,b0.length,[]⟩) (s:=s) ho
   rw[hh]at this
   exact this
 ·rw[if_neg hlt]
  have e:b0=hl st:=hb.eq_of_length (by omega)
  have:=ajI (s:=s) ho
  rw[←e]at this
  exact this
end Orp
end Go.Proofs.YtmngcecomcadkaaGreatDoor
