/- Helps of the proof. No condition. -/
import Derived.Test.YtammlljefhakmaaGreatDoorRows
import Derived.Lib.TrailingZeros
namespace Go.Proofs.YtammlljefhakmaaGreatDoor
set_option maxRecDepth 100000
def word:List Nat→Nat→Nat
 |[],_=>0
 |n::r,i=>if n/64=i then word r i ||| 2^(n%64)else word r i
theorem je(L:List Nat)(i j:Nat):(word L i).testBit j=decide (j<64∧64*i+j∈L):=by
 induction L with
 |nil=>simp[word]
 | cons n r ih=>
  rw[word]
  by_cases h:n/64=i
  ·rw[if_pos h,Nat.testBit_or,ih,Nat.testBit_two_pow,Bool.eq_iff_iff]
   simp only[Bool.or_eq_true,decide_eq_true_eq,List.mem_cons]
   by_cases hm:64*i+j∈r
   ·simp only[hm,or_true,and_true]
    omega
   ·simp only[hm,or_false,and_false,false_or]
    omega
  ·rw[if_neg h,ih,Bool.eq_iff_iff]
   simp only[decide_eq_true_eq,List.mem_cons]
   by_cases hm:64*i+j∈r
   ·simp only[hm,or_true,and_true]
   ·simp only[hm,or_false,and_false,false_iff]
    omega
theorem word_lt(L:List Nat)(i:Nat):word L i<18446744073709551616:=
 Nat.lt_pow_two_of_testBit (n:=64) _ fun j hj=>by rw[je];simp;omega
theorem I5{L K:List Nat}{i:Nat}(h:∀j,j<64→(64*i+j∈L↔64*i+j∈K)):word L i=word K i:=by
 apply Nat.eq_of_testBit_eq
 intro j
 rw[je,je,Bool.eq_iff_iff]
 simp only[decide_eq_true_eq]
 constructor
 ·rintro⟨h1,h2⟩;exact⟨h1,(h j h1).1 h2⟩
 ·rintro⟨h1,h2⟩;exact⟨h1,(h j h1).2 h2⟩
structure Good(L:List Nat):Prop where
 up:L.Pairwise (· < ·)
 top:∀n∈L,n<1024
theorem Good.nil:Good []:=⟨List.Pairwise.nil,fun n hn=>by simp at hn⟩
theorem Good.tail{n:Nat}{r:List Nat}(h:Good (n::r)):Good r:=⟨(List.pairwise_cons.1 h.up).2,fun m hm=>h.top m (by simp[hm])⟩
theorem Good.head{n:Nat}{r:List Nat}(h:Good (n::r)):∀m∈r,n<m:=(List.pairwise_cons.1 h.up).1
def ins:List Nat→Nat→List Nat
 |[],n=>[n]
 |k::r,n=>if n<k then n::k::r else k::ins r n
def del(L:List Nat)(n:Nat):List Nat:=L.filter (fun m=>m !=n)
theorem zN(L:List Nat)(n m:Nat):m∈ins L n↔m=n∨m∈L:=by
 induction L with
 |nil=>simp[ins]
 | cons k r ih=>
  rw[ins]
  split
  ·simp
  ·simp only[List.mem_cons,ih]
   constructor
   ·rintro(h|h|h)
    ·exact Or.inr (Or.inl h)
    ·exact Or.inl h
    ·exact Or.inr (Or.inr h)
   ·rintro(h|h|h)
    ·exact Or.inr (Or.inl h)
    ·exact Or.inl h
    ·exact Or.inr (Or.inr h)
theorem Gs(L:List Nat)(n m:Nat):m∈del L n↔m∈L∧m≠n:=by simp[del]
theorem LZ:∀(L:List Nat) (n:Nat),L.Pairwise (· < ·)→n∉L→(ins L n).Pairwise (· < ·)
 |[],n,_,_=>by simp[ins]
 | k::r,n,h,hn=>by
  obtain⟨h1,h2⟩:=List.pairwise_cons.1 h
  simp only[List.mem_cons,not_or]at hn
  rw[ins]
  split
  ·rename_i hk
   refine List.pairwise_cons.2 ⟨fun m hm=>?_,h⟩
   rcases List.mem_cons.1 hm with rfl|hm
   ·exact hk
   ·exact Nat.lt_trans hk (h1 m hm)
  ·rename_i hk
   refine List.pairwise_cons.2 ⟨fun m hm=>?_,LZ r n h2 hn.2⟩
   rcases(zN r n m).1 hm with rfl|hm
   ·omega
   ·exact h1 m hm
theorem Good.ins{L:List Nat}{n:Nat}(h:Good L)(hn:n<1024)(hnot:n∉L):Good (ins L n):=
 ⟨LZ L n h.up hnot,fun m hm=>by
  rcases(zN L n m).1 hm with rfl|hm
  ·exact hn
  ·exact h.top m hm⟩
theorem Good.del{L:List Nat}(h:Good L)(n:Nat):Good (del L n):=
 ⟨h.up.filter _,fun m hm=>h.top m ((Gs L n m).1 hm).1⟩
theorem L6(L:List Nat)(n:Nat):(ins L n).length=L.length+1:=by
 induction L with
 |nil=>rfl
 |cons k r ih=>rw[ins];split<;>simp[ih]
theorem I6(L:List Nat)(n i:Nat):word (ins L n) i=if n/64=i then word L i ||| 2^(n%64)else word L i:=by
 have:word (ins L n) i=word (n::L) i:=I5 fun j _=>by rw[zN,List.mem_cons]
 rw[this,word]
theorem AO(L:List Nat)(n i:Nat):word (del L n) i=if n/64=i then word L i &&& (18446744073709551615-2^(n%64))else word L i:=by
 split
 ·rename_i h
  have hp:2^(n%64)<2^64:=Nat.pow_lt_pow_of_lt (by decide) (by omega)
  apply Nat.eq_of_testBit_eq
  intro j
  rw[Nat.testBit_and,je,je,show 18446744073709551615-2^(n%64)=2^64-(2^(n%64)+1) by omega,Nat.testBit_two_pow_sub_succ hp,Nat.testBit_two_pow,Bool.eq_iff_iff]
  simp only[Bool.and_eq_true,decide_eq_true_eq,Gs,Bool.not_eq_true',decide_eq_false_iff_not,ne_eq]
  constructor
  ·rintro⟨h1,h2,h3⟩;exact⟨⟨h1,h2⟩,h1,by omega⟩
  ·rintro⟨⟨h1,h2⟩,_,h3⟩;exact⟨h1,h2,by omega⟩
 ·rename_i h
  exact I5 fun j hj=>by
   rw[Gs]
   constructor
   ·exact fun x=>x.1
   ·exact fun x=>⟨x,by omega⟩
theorem TP(L:List Nat)(n:Nat):word L (n/64) &&& 2^(n%64)=if n∈L then 2^(n%64)else 0:=by
 apply Nat.eq_of_testBit_eq
 intro j
 have e:64*(n/64)+n%64=n:=by omega
 rw[Nat.testBit_and,je,Nat.testBit_two_pow]
 by_cases hj:n%64=j
 ·subst hj
  rw[e]
  split
  ·rename_i h;simp[h];omega
  ·rename_i h;simp[h]
 ·split
  ·rw[Nat.testBit_two_pow];simp[hj]
  ·simp[hj]
theorem aaF(x k:Nat)(hx:x<2^64)(h1:x.testBit k=true)(h2:∀j,j<k→x.testBit j=false):Lib.ctz 64 x=k∧x &&& (x-1)=x &&& (2^64-1-2^k):=by
 have h0:x≠0:=by intro e;rw[e]at h1;simp at h1
 obtain⟨m,hm,hk⟩:=Lib.ctzFrom_spec 64 x (by omega) hx
 have e:Lib.ctz 64 x=Lib.ctzFrom 64 x:=by simp[Lib.ctz,h0]
 rw[e]
 generalize Lib.ctzFrom 64 x=c at*
 have t:∀j,x.testBit j=if j<c then false else(2*m+1).testBit (j-c):=fun j=>by
  have:=Nat.testBit_two_pow_mul_add (2*m+1) (b:=0) (i:=c) (Nat.two_pow_pos c) j
  rw[Nat.add_zero,←hm]at this
  rw[this]
  split<;>simp
 have hck:c=k:=by
  rcases Nat.lt_trichotomy c k with h|h|h
  ·have:=h2 c h
   rw[t,if_neg (by omega),Nat.sub_self]at this
   simp[Nat.testBit_zero]at this
  ·exact h
  ·rw[t,if_pos h]at h1;cases h1
 subst hck
 refine⟨rfl,?_⟩
 have e1:x-1=2^c*(2*m)+(2^c-1):=by
  rw[hm,Nat.mul_add,Nat.mul_one]
  have:=Nat.two_pow_pos c
  omega
 have hp:2^c<2^64:=Nat.pow_lt_pow_of_lt (by decide) hk
 apply Nat.eq_of_testBit_eq
 intro j
 rw[Nat.testBit_and,Nat.testBit_and,e1,Nat.testBit_two_pow_mul_add _ (by have:=Nat.two_pow_pos c;omega),show 2^64-1-2^c=2^64-(2^c+1) by omega,Nat.testBit_two_pow_sub_succ hp,Nat.testBit_two_pow,t]
 by_cases hj:j<c
 ·simp[hj]
 ·rw[if_neg hj,if_neg hj]
  by_cases hjc:c=j
  ·subst hjc;simp[Nat.testBit_zero]
  ·obtain⟨d,rfl⟩:∃d,j=c+(d+1):=⟨j-c-1,by omega⟩
   rw[show c+(d+1)-c=d+1 by omega,Nat.testBit_succ,Nat.testBit_succ,show(2*m+1)/2=m by omega,show 2*m/2=m by omega]
   by_cases h64:c+(d+1)<64
   ·simp[h64]
   ·have:x.testBit (c+(d+1))=false:=Nat.testBit_lt_two_pow (Nat.lt_of_lt_of_le hx (Nat.pow_le_pow_right (by decide) (by omega)))
    rw[t,if_neg (by omega),show c+(d+1)-c=d+1 by omega,Nat.testBit_succ,show(2*m+1)/2=m by omega]at this
    simp[this]
theorem I8{n:Nat}{r:List Nat}(h:Good (n::r)):del (n::r) n=r:=by
 have h1:∀m∈r,(m !=n)=true:=fun m hm=>by have:=h.head m hm;simp;omega
 simp[del,List.filter_eq_self.2 h1]
theorem TQ{n:Nat}{r:List Nat}(h:Good (n::r))(i:Nat)(hi:i<n/64):word (n::r) i=0:=by
 apply Nat.eq_of_testBit_eq
 intro j
 rw[je,Nat.zero_testBit]
 simp only[decide_eq_false_iff_not,not_and,List.mem_cons]
 rintro h1 (h2|h2)
 ·omega
 ·have:=h.head _ h2;omega
theorem uR{n:Nat}{r:List Nat}(h:Good (n::r)):word (n::r) (n/64)≠0∧Lib.ctz 64 (word (n::r) (n/64))=n%64∧word (n::r) (n/64) &&& (word (n::r) (n/64)-1)=word r (n/64):=by
 have hb:(word (n::r) (n/64)).testBit (n%64)=true:=by
  rw[je,show 64*(n/64)+n%64=n by omega]
  simp;omega
 obtain⟨h1,h2⟩:=aaF _ (n%64) (word_lt _ _) hb fun j hj=>by
  rw[je]
  simp only[decide_eq_false_iff_not,not_and,List.mem_cons]
  rintro _ (h2|h2)
  ·omega
  ·have:=h.head _ h2;omega
 refine⟨fun e=>by rw[e]at hb;simp at hb,h1,?_⟩
 rw[h2]
 have:=AO (n::r) n (n/64)
 rw[if_pos rfl,I8 h]at this
 exact this.symm
theorem Ef{n:Nat}{r:List Nat}(i:Nat)(hi:n/64≠i):word r i=word (n::r) i:=by rw[word,if_neg hi]
theorem I9(i:Nat):word [] i=0:=rfl
def eu(x:Nat):Nat→Nat
 |0=>0
 |k+1=>eu x k+(x.testBit k).toNat
theorem kC(x k:Nat):eu x k≤k:=by
 induction k with
 |zero=>exact Nat.le_refl _
 |succ k ih=>rw[eu];have:=Bool.toNat_le (x.testBit k);omega
theorem L8(k:Nat):eu 0 k=0:=by
 induction k with
 |zero=>rfl
 |succ k ih=>simp[eu,ih]
theorem TU(x j:Nat)(hj:x.testBit j=false)(k:Nat):eu (x ||| 2^j) k=eu x k+if j<k then 1 else 0:=by
 induction k with
 |zero=>simp[eu]
 | succ k ih=>
  rw[eu,eu,ih,Nat.testBit_or,Nat.testBit_two_pow]
  by_cases h:j=k
  ·subst h
   rw[hj,if_neg (by omega),if_pos (by omega)]
   simp
  ·rw[decide_eq_false h,Bool.or_false]
   by_cases h2:j<k
   ·rw[if_pos h2,if_pos (by omega)];omega
   ·rw[if_neg h2,if_neg (by omega)];omega
theorem L9(n:Nat)(r:List Nat)(hn:n∉r)(i:Nat):eu (word (n::r) i) 64=eu (word r i) 64+if n/64=i then 1 else 0:=by
 rw[word]
 split
 ·rename_i h
  rw[TU _ _ _ 64,if_pos (Nat.mod_lt _ (by decide))]
  rw[je,←h,show 64*(n/64)+n%64=n by omega]
  simp[hn]
 ·rfl
def lZ(L:List Nat):Nat→Nat
 |0=>0
 |m+1=>lZ L m+eu (word L m) 64
theorem Px(m:Nat):lZ [] m=0:=by
 induction m with
 |zero=>rfl
 |succ m ih=>rw[lZ,ih,I9,L8]
theorem Ma(n:Nat)(r:List Nat)(hn:n∉r)(m:Nat):lZ (n::r) m=lZ r m+if n/64<m then 1 else 0:=by
 induction m with
 |zero=>simp[lZ]
 | succ m ih=>
  rw[lZ,lZ,ih,L9 n r hn]
  by_cases h:n/64=m
  ·rw[if_pos h,if_neg (by omega),if_pos (by omega)];omega
  ·rw[if_neg h]
   by_cases h2:n/64<m
   ·rw[if_pos h2,if_pos (by omega)];omega
   ·rw[if_neg h2,if_neg (by omega)];omega
theorem Py(L:List Nat)(h:Good L):lZ L 16=L.length:=by
 induction L with
 |nil=>rw[Px];rfl
 |cons n r ih=>
  have hn:n∉r:=fun hm=>by have:=h.head n hm;omega
  rw[Ma n r hn,ih h.tail,if_pos (by have:=h.top n (by simp);omega),List.length_cons]
theorem TV(L:List Nat)(m:Nat):lZ L m≤64*m:=by
 induction m with
 |zero=>exact Nat.le_refl _
 |succ m ih=>rw[lZ];have:=kC (word L m) 64;omega
theorem vT(a b c d:Nat)(ha:a<256)(hc:c<256):(a+256*b) &&& (c+256*d)=(a &&& c)+256*(b &&& d):=by
 have h1:=@Nat.and_mod_two_pow (a+256*b) (c+256*d) 8
 have h2:=@Nat.and_div_two_pow (a+256*b) (c+256*d) 8
 rw[show(a+256*b)%2^8=a by omega,show(c+256*d)%2^8=c by omega]at h1
 rw[show(a+256*b)/2^8=b by omega,show(c+256*d)/2^8=d by omega]at h2
 omega
def val:List Nat→Nat
 |[]=>0
 |a::r=>a+256*val r
def many(c:Nat):Nat→Nat
 |0=>0
 |k+1=>c+256*many c k
def g1(a:Nat):Nat:=(a/2 &&& 85)+(a &&& 85)
def g2(a:Nat):Nat:=(a/4 &&& 51)+(a &&& 51)
def g3(a:Nat):Nat:=(a/16+a) &&& 15
theorem af9:∀a,a<256→∀b,b<2→(a/2+128*b) &&& 85=a/2 &&& 85:=by decide+kernel
theorem afa:∀a,a<256→∀b,b<4→(a/4+64*b) &&& 51=a/4 &&& 51:=by decide+kernel
theorem afb:∀a,a<69→∀b,b<16→(a/16+a+16*b) &&& 15=(a/16+a) &&& 15:=by decide+kernel
theorem acU:∀a,a<256→g1 a<256:=by decide+kernel
theorem acV:∀a,a<256→g2 (g1 a)<256∧g2 (g1 a)<69∧g2 (g1 a)%16<5:=by decide+kernel
theorem rZ:∀a,a<256→g3 (g2 (g1 a))=eu a 8:=by decide+kernel
theorem step1:∀l:List Nat,(∀a∈l,a<256)→(val l/2 &&& many 85 l.length)+(val l &&& many 85 l.length)=val (l.map g1)
 |[],_=>rfl
 |a::r,h=>by
  have ha:=h a (by simp)
  have ih:=step1 r (fun x hx=>h x (by simp[hx]))
  simp only[val,List.length_cons,many,List.map_cons]
  rw[←ih,show(a+256*val r)/2=(a/2+128*(val r%2))+256*(val r/2) by omega,vT _ _ _ _ (by omega) (by decide),vT _ _ _ _ ha (by decide),af9 a ha _ (Nat.mod_lt _ (by decide)),g1]
  omega
theorem step2:∀l:List Nat,(∀a∈l,a<256)→(val l/4 &&& many 51 l.length)+(val l &&& many 51 l.length)=val (l.map g2)
 |[],_=>rfl
 |a::r,h=>by
  have ha:=h a (by simp)
  have ih:=step2 r (fun x hx=>h x (by simp[hx]))
  simp only[val,List.length_cons,many,List.map_cons]
  rw[←ih,show(a+256*val r)/4=(a/4+64*(val r%4))+256*(val r/4) by omega,vT _ _ _ _ (by omega) (by decide),vT _ _ _ _ ha (by decide),afa a ha _ (Nat.mod_lt _ (by decide)),g2]
  omega
theorem val_mod:∀l:List Nat,(∀a∈l,a%16<5)→val l%16<5
 |[],_=>by decide
 |a::r,h=>by have:=h a (by simp);simp only[val];omega
theorem Zt:∀l:List Nat,(∀a∈l,a<69∧a%16<5)→(val l/16+val l) &&& many 15 l.length=val (l.map g3)
 |[],_=>rfl
 |a::r,h=>by
  obtain⟨ha,hb⟩:=h a (by simp)
  have hr:∀x∈r,x<69∧x%16<5:=fun x hx=>h x (by simp[hx])
  have ih:=Zt r hr
  have hm:=val_mod r (fun x hx=>(hr x hx).2)
  simp only[val,List.length_cons,many,List.map_cons]
  rw[←ih,show(a+256*val r)/16+(a+256*val r)=(a/16+a+16*(val r%16))+256*(val r/16+val r) by omega,vT _ _ _ _ (by omega) (by decide),afb a ha _ (Nat.mod_lt _ (by decide)),g3]
def bytes:Nat→Nat→List Nat
 |0,_=>[]
 |k+1,x=>x%256::bytes k (x/256)
theorem Ja:∀k x,∀a∈bytes k x,a<256
 |0,_,a,h=>by simp[bytes]at h
 |k+1,x,a,h=>by
  rcases List.mem_cons.1 h with rfl|h
  ·exact Nat.mod_lt _ (by decide)
  ·exact Ja k _ a h
theorem Gt:∀k x,(bytes k x).length=k
 |0,_=>rfl
 |k+1,x=>by simp[bytes,Gt k]
theorem Eh:∀k x,x<256^k→val (bytes k x)=x
 |0,x,h=>by simp at h;subst h;rfl
 |k+1,x,h=>by
  rw[bytes,val,Eh k (x/256) (by rw[Nat.pow_succ]at h;omega)]
  omega
theorem Ei(x k:Nat):∀m,eu x (k+m)=eu x k+eu (x/2^k) m
 |0=>rfl
 |m+1=>by rw[←Nat.add_assoc,eu,Ei x k m,eu,Nat.testBit_div_two_pow,Nat.add_assoc,Nat.add_comm m k]
theorem Ej(x k:Nat):∀m,m≤k→eu (x%2^k) m=eu x m
 |0,_=>rfl
 |m+1,h=>by
  rw[eu,eu,Ej x k m (by omega),Nat.testBit_mod_two_pow,decide_eq_true (show m<k by omega),Bool.true_and]
def TY:List Nat→Nat
 |[]=>0
 |a::r=>eu a 8+TY r
theorem yS:∀k x,eu x (8*k)=TY (bytes k x)
 |0,_=>rfl
 |k+1,x=>by
  rw[show 8*(k+1)=8+8*k by omega,Ei,yS k,bytes,TY]
  have:=Ej x 8 8 (Nat.le_refl _)
  rw[show x%256=x%2^8 by rfl,this]
theorem dg1(a r:Nat)(ha:a<256):(a+256*r)/256=r:=by omega
theorem dg2(a b r:Nat)(ha:a<256)(hb:b<256):(a+256*(b+256*r))/65536=r:=by omega
theorem dg4(a b c d r:Nat)(ha:a<256)(hb:b<256)(hc:c<256)(hd:d<256):(a+256*(b+256*(c+256*(d+256*r))))/4294967296=r:=by omega
theorem dgm(a r:Nat)(ha:a<128):(a+256*r)%128=a:=by omega
theorem Mc:∀l:List Nat,(∀a∈l,a<256)→val l<256^l.length
 |[],_=>by decide
 |a::r,h=>by
  have:=Mc r (fun x hx=>h x (by simp[hx]))
  have:=h a (by simp)
  rw[val,List.length_cons,Nat.pow_succ]
  omega
theorem Nq:∀l:List Nat,(∀a∈l,a<69)→val l≤68*many 1 l.length
 |[],_=>by decide
 |a::r,h=>by
  have:=Nq r (fun x hx=>h x (by simp[hx]))
  have:=h a (by simp)
  rw[val,List.length_cons,many]
  omega
theorem aaG(c0 c1 c2 c3 c4 c5 c6 c7 u:Nat)(h0:c0≤8)(hu:u=c0+256*(c1+256*(c2+256*(c3+256*(c4+256*(c5+256*(c6+256*c7))))))):
  u+u/256=(c0+c1)+256*((c1+c2)+256*((c2+c3)+256*((c3+c4)+256*((c4+c5)+256*((c5+c6)+256*((c6+c7)+256*c7)))))):=by
 have e:u/256=c1+256*(c2+256*(c3+256*(c4+256*(c5+256*(c6+256*c7))))):=by rw[hu];exact dg1 _ _ (by omega)
 rw[e,hu]
 clear e hu h0
 omega
theorem aaH(d0 d1 d2 d3 d4 d5 d6 d7 u:Nat)(h0:d0≤16)(h1:d1≤16)(hu:u=d0+256*(d1+256*(d2+256*(d3+256*(d4+256*(d5+256*(d6+256*d7))))))):
  u+u/65536=(d0+d2)+256*((d1+d3)+256*((d2+d4)+256*((d3+d5)+256*((d4+d6)+256*((d5+d7)+256*(d6+256*d7)))))):=by
 have e:u/65536=d2+256*(d3+256*(d4+256*(d5+256*(d6+256*d7)))):=by rw[hu];exact dg2 _ _ _ (by omega) (by omega)
 rw[e,hu]
 clear e hu h0 h1
 omega
theorem aaI(d0 d1 d2 d3 d4 d5 d6 d7 u:Nat)(h0:d0≤32)(h1:d1≤32)(h2:d2≤32)(h3:d3≤32)(hu:u=d0+256*(d1+256*(d2+256*(d3+256*(d4+256*(d5+256*(d6+256*d7))))))):
  u+u/4294967296=(d0+d4)+256*((d1+d5)+256*((d2+d6)+256*((d3+d7)+256*(d4+256*(d5+256*(d6+256*d7)))))):=by
 have e:u/4294967296=d4+256*(d5+256*(d6+256*d7)):=by rw[hu];exact dg4 _ _ _ _ _ (by omega) (by omega) (by omega) (by omega)
 rw[e,hu]
 clear e hu h0 h1 h2 h3
 omega
theorem vU(a0 a1 a2 a3 a4 a5 a6 a7:Nat)(h0:a0<256)(h1:a1<256)(h2:a2<256)(h3:a3<256)(h4:a4<256)(h5:a5<256)(h6:a6<256)(h7:a7<256):a0+256*(a1+256*(a2+256*(a3+256*(a4+256*(a5+256*(a6+256*a7))))))<18446744073709551616:=by
 have:=Mc [a0,a1,a2,a3,a4,a5,a6,a7] (by simp;exact⟨h0,h1,h2,h3,h4,h5,h6,h7⟩)
 simpa[val]using this
theorem Pz(c0 c1 c2 c3 c4 c5 c6 c7 u:Nat)(h0:c0≤8)(h1:c1≤8)(h2:c2≤8)(h3:c3≤8)(h4:c4≤8)(h5:c5≤8)(h6:c6≤8)(h7:c7≤8)(hu:u=c0+256*(c1+256*(c2+256*(c3+256*(c4+256*(c5+256*(c6+256*c7))))))):
  u<18446744073709551616∧u+u/256<18446744073709551616∧(u+u/256)+(u+u/256)/65536<18446744073709551616∧(u+u/256+(u+u/256)/65536)+(u+u/256+(u+u/256)/65536)/4294967296<18446744073709551616∧((u+u/256+(u+u/256)/65536)+(u+u/256+(u+u/256)/65536)/4294967296)%128=c0+(c1+(c2+(c3+(c4+(c5+(c6+c7)))))):=by
 have b0:u<18446744073709551616:=by rw[hu];exact vU _ _ _ _ _ _ _ _ (by omega) (by omega) (by omega) (by omega) (by omega) (by omega) (by omega) (by omega)
 have e1:=aaG c0 c1 c2 c3 c4 c5 c6 c7 u h0 hu
 clear hu
 generalize u+u/256=v at*
 have b1:v<18446744073709551616:=by rw[e1];exact vU _ _ _ _ _ _ _ _ (by omega) (by omega) (by omega) (by omega) (by omega) (by omega) (by omega) (by omega)
 have e2:=aaH _ _ _ _ _ _ _ _ v (by omega) (by omega) e1
 clear e1
 generalize v+v/65536=x at*
 have b2:x<18446744073709551616:=by rw[e2];exact vU _ _ _ _ _ _ _ _ (by omega) (by omega) (by omega) (by omega) (by omega) (by omega) (by omega) (by omega)
 have e3:=aaI _ _ _ _ _ _ _ _ x (by omega) (by omega) (by omega) (by omega) e2
 clear e2
 generalize x+x/4294967296=y at*
 have b3:y<18446744073709551616:=by rw[e3];exact vU _ _ _ _ _ _ _ _ (by omega) (by omega) (by omega) (by omega) (by omega) (by omega) (by omega) (by omega)
 refine⟨b0,b1,b2,b3,?_⟩
 rw[e3,dgm _ _ (by omega)]
 clear e3 b0 b1 b2 b3
 omega
set_option maxHeartbeats 400000 in
theorem PI(x:Nat)(hx:x<18446744073709551616):∃y z u:Nat,(x/2 &&& 6148914691236517205)+(x &&& 6148914691236517205)=y∧(y/4 &&& 3689348814741910323)+(y &&& 3689348814741910323)=z∧(z/16+z) &&& 1085102592571150095=u∧
  y<18446744073709551616∧z/16+z<18446744073709551616∧z<18446744073709551616∧u<18446744073709551616∧u+u/256<18446744073709551616∧(u+u/256)+(u+u/256)/65536<18446744073709551616∧(u+u/256+(u+u/256)/65536)+(u+u/256+(u+u/256)/65536)/4294967296<18446744073709551616∧((u+u/256+(u+u/256)/65536)+(u+u/256+(u+u/256)/65536)/4294967296)%128=eu x 64:=by
 have hv:val (bytes 8 x)=x:=Eh 8 x (by simpa using hx)
 have hl:=Ja 8 x
 have hp:eu x 64=TY (bytes 8 x):=yS 8 x
 simp only[bytes]at hv hl hp
 generalize x%256=a0 at*
 generalize x/256%256=a1 at*
 generalize x/256/256%256=a2 at*
 generalize x/256/256/256%256=a3 at*
 generalize x/256/256/256/256%256=a4 at*
 generalize x/256/256/256/256/256%256=a5 at*
 generalize x/256/256/256/256/256/256%256=a6 at*
 generalize x/256/256/256/256/256/256/256%256=a7 at*
 have h0:=hl a0 (by simp)
 have h1:=hl a1 (by simp)
 have h2:=hl a2 (by simp)
 have h3:=hl a3 (by simp)
 have h4:=hl a4 (by simp)
 have h5:=hl a5 (by simp)
 have h6:=hl a6 (by simp)
 have h7:=hl a7 (by simp)
 have s1:=step1 [a0,a1,a2,a3,a4,a5,a6,a7] hl
 rw[hv,show many 85 [a0,a1,a2,a3,a4,a5,a6,a7].length=6148914691236517205 by rfl]at s1
 have hl1:∀a∈[a0,a1,a2,a3,a4,a5,a6,a7].map g1,a<256:=fun a ha=>by
  obtain⟨b,hb,rfl⟩:=List.mem_map.1 ha
  exact acU b (hl b hb)
 have s2:=step2 _ hl1
 rw[←s1,show many 51 ([a0,a1,a2,a3,a4,a5,a6,a7].map g1).length=3689348814741910323 by rfl]at s2
 have hl2:∀a∈([a0,a1,a2,a3,a4,a5,a6,a7].map g1).map g2,a<69∧a%16<5:=fun a ha=>by
  obtain⟨b,hb,rfl⟩:=List.mem_map.1 ha
  obtain⟨c,hc,rfl⟩:=List.mem_map.1 hb
  exact(acV c (hl c hc)).2
 have s3:=Zt _ hl2
 rw[←s2,show many 15 (([a0,a1,a2,a3,a4,a5,a6,a7].map g1).map g2).length=1085102592571150095 by rfl]at s3
 have by1:=Mc _ hl1
 rw[show([a0,a1,a2,a3,a4,a5,a6,a7].map g1).length=8 from rfl,show 256^8=18446744073709551616 by decide]at by1
 have bz1:=Nq _ (fun a ha=>(hl2 a ha).1)
 rw[show many 1 (([a0,a1,a2,a3,a4,a5,a6,a7].map g1).map g2).length=72340172838076673 by rfl]at bz1
 rw[←s1]at by1
 rw[←s2]at bz1
 refine⟨_,_,_,rfl,rfl,rfl,by1,by omega,by omega,?_⟩
 simp only[List.map_cons,List.map_nil]at s1 s2 s3
 rw[rZ a0 h0,rZ a1 h1,rZ a2 h2,rZ a3 h3,rZ a4 h4,rZ a5 h5,rZ a6 h6,rZ a7 h7]at s3
 rw[hp]
 simp only[val,TY,Nat.mul_zero,Nat.add_zero]at s3 ⊢
 exact Pz _ _ _ _ _ _ _ _ _ (kC a0 8) (kC a1 8) (kC a2 8) (kC a3 8) (kC a4 8) (kC a5 8) (kC a6 8) (kC a7 8) s3
end Go.Proofs.YtammlljefhakmaaGreatDoor
