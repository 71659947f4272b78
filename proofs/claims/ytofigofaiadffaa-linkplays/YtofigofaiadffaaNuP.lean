/- Two links side by side; LinkNumbers, plain. -/
import Derived.Test.YtofigofaiadffaaAlv
namespace Go.Proofs.Ytofigofaiadffaa
open Go.RowKit Go.ChangeShapes Go.WideShapes Go.ChangeAt Go.Deep

/-- Two links that share no block; nothing of w is written. -/
def SN (w wr : World) (ga gb : Nat) (sa sb : Lk) : Prop :=
  (∃ D1 D2, LinkP D1 wr ga sa ∧ LinkP D2 wr gb sb ∧ (∀ k, D1 k → ¬ D2 k) ∧ (∀ k, D1 k → w.heap.size ≤ k) ∧ ∀ k, D2 k → w.heap.size ≤ k) ∧ Below w.heap.size w wr
theorem SN.below {w wr w1 : World} {ga gb : Nat} {sa sb : Lk} (h : SN w wr ga gb sa sb) (hb : Below wr.heap.size wr w1) : SN w w1 ga gb sa sb := by
  obtain ⟨⟨D1, D2, h1, h2, h3, h4, h5⟩, h6⟩ := h
  exact ⟨⟨D1, D2, h1.below hb, h2.below hb, h3, h4, h5⟩, h6.trans (hb.mono h6.size)⟩
theorem SN.lt {w wr : World} {ga gb : Nat} {sa sb : Lk} (h : SN w wr ga gb sa sb) : (w.heap.size ≤ ga ∧ ga < wr.heap.size) ∧ (w.heap.size ≤ gb ∧ gb < wr.heap.size) ∧ ga ≠ gb := by
  obtain ⟨⟨D1, D2, h1, h2, h3, h4, h5⟩, h6⟩ := h
  exact ⟨⟨h4 _ h1.dg, h1.lt _ h1.dg⟩, ⟨h5 _ h2.dg, h2.lt _ h2.dg⟩, fun e => h3 _ h1.dg (e ▸ h2.dg)⟩
theorem SN.swap {w wr : World} {ga gb : Nat} {sa sb : Lk} (h : SN w wr ga gb sa sb) : SN w wr gb ga sb sa := by
  obtain ⟨⟨D1, D2, h1, h2, h3, h4, h5⟩, h6⟩ := h
  exact ⟨⟨D2, D1, h2, h1, fun k hk hk' => h3 k hk' hk, h5, h4⟩, h6⟩
/-- A call of the first link. -/
theorem SN.nextA {D1 D2 : Nat → Prop} {w wr w1 : World} {ga gb : Nat} {sa sa' sb : Lk} (h1 : LinkP D1 wr ga sa) (h2 : LinkP D2 wr gb sb) (h3 : ∀ k, D1 k → ¬ D2 k) (h4 : ∀ k, D1 k → w.heap.size ≤ k) (h5 : ∀ k, D2 k → w.heap.size ≤ k) (h6 : Below w.heap.size w wr) (hp : LinkP (Ex D1 wr w1) w1 ga sa') (hk : Kp (fun k => k = ga) wr w1) : SN w w1 ga gb sa' sb := by
  refine ⟨⟨_, D2, hp, h2.other hk (fun k hd e => h3 ga h1.dg (e ▸ hd)), fun k hd hd2 => ?_, fun k hd => hd.elim (h4 k) fun h => Nat.le_trans h6.size h.1, h5⟩, h6.trans (hk.to_below h6.size (fun k e => by subst e; exact h4 _ h1.dg))⟩
  rcases hd with hd | hd
  · exact h3 k hd hd2
  · have := h2.lt k hd2
    omega
theorem sendN (w wr : World) (ga gb : Nat) (sa sb : Lk) (a : Option Addr) (n c : Nat) (xs : List Nat) (h : SN w wr ga gb sa sb) (hu : sa.used ≤ 1000000) (hl : xs.length = n) (hB : Byt xs) (hr : Reads wr a (bV xs)) (hnil : a = none → n = 0 ∧ c = 0) (hne : ∀ ad, a = some ad → 0 < n → ad.block ≠ ga) :
    Calls Try.prog 12 #[.pointer (some ⟨ga, 0, none⟩), .slice a n c] wr fun e w' => e = .returned (.int .i64 (sendE sa xs)) ∧ SN w w' ga gb (sendL sa xs) sb ∧ Kp (fun k => k = ga) wr w' := by
  obtain ⟨⟨D1, D2, h1, h2, h3, h4, h5⟩, h6⟩ := h
  refine (send_any D1 ga sa a n c xs wr h1 hu hl hB hr hnil hne).mono ?_
  rintro e w' ⟨rfl, hp, hk⟩
  exact ⟨rfl, SN.nextA h1 h2 h3 h4 h5 h6 hp hk, hk⟩
theorem outN (w wr : World) (ga gb : Nat) (sa sb : Lk) (now : Int) (h : SN w wr ga gb sa sb) (hu : sa.used ≤ 1000000) (hn : I64 now) :
    Calls Try.prog 15 #[.pointer (some ⟨ga, 0, none⟩), .int .i64 now] wr fun e w' => ∃ a c, e = .returned (.slice a (outF sa now).length c) ∧ (∃ l, RowF wr.heap.size w' a (outF sa now).length c l ∧ l.map Fm.p = outF sa now) ∧ SN w w' ga gb (outL sa now) sb ∧ Kp (fun k => k = ga) wr w' := by
  obtain ⟨⟨D1, D2, h1, h2, h3, h4, h5⟩, h6⟩ := h
  refine (out_any D1 ga sa now wr h1 hu hn).mono ?_
  rintro e w' ⟨a, n, c, l, rfl, hR, hl, hp, hk⟩
  have hn : n = (outF sa now).length := by rw [← hl, List.length_map, hR.1]
  subst hn
  exact ⟨a, c, rfl, ⟨l, hR, hl⟩, SN.nextA h1 h2 h3 h4 h5 h6 hp.toEx hk, hk⟩
theorem inN (w wr : World) (ga gb : Nat) (sa sb : Lk) (f : Fr) (a : Option Addr) (n c : Nat) (h : SN w wr ga gb sa sb) (hu : sa.used ≤ 1000000) (hcm : sa.came ≤ 1000000) (hl : f.x.length = n) (hB : Byt f.x) (hr : Reads wr a (bV f.x)) (hnil : a = none → n = 0 ∧ c = 0) (hne : ∀ ad, a = some ad → 0 < n → ad.block ≠ ga) :
    Calls Try.prog 18 #[.pointer (some ⟨ga, 0, none⟩), .agg #[.int .i64 f.fr, .int .i64 f.tt, .int .i64 f.lf, .int .i64 f.sq, .int .i64 f.ak, .slice a n c]] wr fun e w' => ∃ b m d, e = .returned (.tuple #[.slice b m d, .bool (forB sa f)]) ∧ SN w w' ga gb (inL sa f) sb ∧ Kp (fun k => k = ga) wr w' := by
  obtain ⟨⟨D1, D2, h1, h2, h3, h4, h5⟩, h6⟩ := h
  refine (in_any D1 ga sa f a n c wr h1 hu hcm hl hB hr hnil hne).mono ?_
  rintro e w' ⟨b, m, d, l, rfl, hR, hl, hp, hk⟩
  exact ⟨b, m, d, rfl, SN.nextA h1 h2 h3 h4 h5 h6 hp hk, hk⟩
theorem openN (w wr : World) (ga gb : Nat) (sa sb : Lk) (h : SN w wr ga gb sa sb) (hb : sa.used ≤ 1000000) : Calls Try.prog 21 #[.pointer (some ⟨ga, 0, none⟩)] wr fun e w' => e = .returned (.int .i64 (sa.op.length : Int)) ∧ Below wr.heap.size wr w' := by
  obtain ⟨⟨D1, D2, h1, h2, h3, h4, h5⟩, h6⟩ := h
  exact open_any D1 ga sa wr h1 hb
theorem seqN (w wr : World) (ga gb : Nat) (sa sb : Lk) (h : SN w wr ga gb sa sb) : Calls Try.prog 23 #[.pointer (some ⟨ga, 0, none⟩)] wr fun e w' => e = .returned (.int .i64 (sa.used : Int)) ∧ w' = wr := by
  obtain ⟨⟨D1, D2, h1, h2, h3, h4, h5⟩, h6⟩ := h
  exact seq_any D1 ga sa wr h1
theorem RowF.kp {B g : Nat} {w w' : World} {a : Option Addr} {n c : Nat} {l : List Fm} (h : RowF B w a n c l) (hk : Kp (fun k => k = g) w w') (hg : g < B) : RowF B w' a n c l := h.keep hk.size fun k h1 h2 => hk.block k h2 (by omega)
/-- The frame at a place of a row, as it is handed to In. -/
theorem RowF.frame {B : Nat} {w : World} {b n c k : Nat} {l : List Fm} {f : Fr} (h : RowF B w (some ⟨b, 0, none⟩) n c l) (hk : k < l.length) (hf : l[k].p = f) : ∃ a m d, w.cell? ⟨b, k * 6, none⟩ = some (.int .i64 f.fr) ∧ w.cell? ⟨b, k * 6 + 1, none⟩ = some (.int .i64 f.tt) ∧ w.cell? ⟨b, k * 6 + 2, none⟩ = some (.int .i64 f.lf) ∧ w.cell? ⟨b, k * 6 + 3, none⟩ = some (.int .i64 f.sq) ∧ w.cell? ⟨b, k * 6 + 4, none⟩ = some (.int .i64 f.ak) ∧ w.cell? ⟨b, k * 6 + 5, none⟩ = some (.slice a m d) ∧ f.x.length = m ∧ Byt f.x ∧ Reads w a (bV f.x) ∧ (a = none → m = 0 ∧ d = 0) ∧ ∀ ad, a = some ad → B ≤ ad.block := by
  obtain ⟨h0, h1, h2, h3, h4, h5⟩ := h.at hk
  have hT := h.2.2 l[k] (List.getElem_mem _)
  subst hf
  exact ⟨_, _, _, h0, h1, h2, h3, h4, h5, hT.1.1, hT.1.2.1, hT.reads.1, hT.reads.2.1, fun ad e => (hT.2.2 ad e).1⟩

namespace linkNumbers
/-- The first link: loads that were never out are open. -/
def AI (last : Int) (A : Nat) (ops : List Op) : Lk := { newL 0 1 1 1 last with acked := A, op := ops }
theorem AI_send (last : Int) (A : Nat) (ops : List Op) (x : List Nat) (hx : x.length ≤ 4096) (h8 : ops.length < 8) : sendE (AI last A ops) x = (if last ≤ ((A + ops.length : Nat) : Int) then 32 else 0) ∧ sendL (AI last A ops) x = (if last ≤ ((A + ops.length : Nat) : Int) then AI last A ops else AI last A (ops ++ [⟨x, 0, 0⟩])) := by
  have e : sendE (AI last A ops) x = (if last ≤ ((A + ops.length : Nat) : Int) then 32 else 0) := by
    unfold sendE
    rw [if_neg (by omega)]
    have h1 : (AI last A ops).last = last := rfl
    have h2 : (AI last A ops).used = A + ops.length := rfl
    have h3 : (AI last A ops).op.length = ops.length := rfl
    rw [h1, h2, h3, if_neg (show ¬ 8 ≤ ops.length by omega)]
  refine ⟨e, ?_⟩
  unfold sendL
  rw [e]
  split
  · simp
  · rfl
theorem dueF_all (now : Int) (ops : List Op) (h : ∀ o ∈ ops, o.wt = 0) : ∀ n, (dueF now n ops).length = ops.length ∧ ∀ j (hj : j < ops.length), (dueF now n ops)[j]? = some (n + j, ops[j].x) := by
  induction ops with
  | nil => intro n; exact ⟨rfl, fun j hj => by simp at hj⟩
  | cons o r ih =>
    intro n
    have hd : dueB o now = true := by simp [dueB, h o (by simp)]
    have := ih (fun o ho => h o (by simp [ho])) (n + 1)
    simp only [dueF, hd, if_true, List.singleton_append, List.length_cons]
    refine ⟨by rw [this.1], fun j hj => ?_⟩
    cases j with
    | zero => simp
    | succ j =>
      have := this.2 j (by omega)
      rw [List.getElem?_cons_succ, this]
      simp
      omega
theorem AI_out (last : Int) (A : Nat) (ops : List Op) (now : Int) (h : ∀ o ∈ ops, o.wt = 0) : (outF (AI last A ops) now).length = ops.length ∧ (∀ j (hj : j < ops.length), (outF (AI last A ops) now)[j]? = some ⟨0, 1, 1, ((A + 1 + j : Nat) : Int), 0, ops[j].x⟩) ∧ outL (AI last A ops) now = AI last A (ops.map (dueO now)) := by
  have e : outP (AI last A ops) now = dueF now (A + 1) ops := by
    unfold outP
    have : (AI last A ops).owed = false := rfl
    simp [this]
    rfl
  have hd := dueF_all now ops h (A + 1)
  refine ⟨by unfold outF; rw [List.length_map, e, hd.1], fun j hj => ?_, ?_⟩
  · unfold outF
    rw [e, List.getElem?_map, hd.2 j hj]
    rfl
  · unfold outL
    have : (if (outP (AI last A ops) now).isEmpty = true then (AI last A ops).owed else false) = false := by split <;> rfl
    rw [this]
    rfl
/-- The second link: the loads up to c came in. -/
def BI (c : Nat) (o : Bool) (s : Lk) : Prop := ∃ e : Nat → Option (List Nat), s = { newL 1 0 1 1 10 with came := c, ea := e, owed := o } ∧ ∀ n, c < n → e n = none
theorem BI_in {c : Nat} {o : Bool} {s : Lk} (h : BI c o s) (x : List Nat) (hx : x.length ≤ 4096) : BI (c + 1) true (inL s ⟨0, 1, 1, ((c + 1 : Nat) : Int), 0, x⟩) := by
  obtain ⟨e, rfl, he⟩ := h
  have hF : forB { newL 1 0 1 1 10 with came := c, ea := e, owed := o } ⟨0, 1, 1, ((c + 1 : Nat) : Int), 0, x⟩ = true := by
    unfold forB newL Lk.used
    simp
    omega
  have hcl : closeL { newL 1 0 1 1 10 with came := c, ea := e, owed := o } 0 = { newL 1 0 1 1 10 with came := c, ea := e, owed := o } := by
    unfold closeL newL
    simp
  have hk : keepE e (c + 1) x = upd e (c + 1) (some x) := by unfold keepE; rw [he _ (by omega)]; simp
  have ho : (ordF (upd e (c + 1) (some x)) 8 c).length = 1 := by
    have h1 : upd e (c + 1) (some x) (c + 1) = some x := upd_same _ _ _
    have h2 : upd e (c + 1) (some x) (c + 1 + 1) = none := by rw [upd_ne _ _ _ _ (by omega)]; exact he _ (by omega)
    simp [ordF, h1, h2]
  unfold inL
  rw [if_pos hF, if_neg (by simp only; omega), hcl]
  unfold accL
  rw [if_neg (by simp only; omega)]
  refine ⟨upd e (c + 1) (some x), ?_, fun n hn => by rw [upd_ne _ _ _ _ (by omega)]; exact he n (by omega)⟩
  simp only [Int.toNat_natCast, hk, ho]
theorem BI_out {c : Nat} {s : Lk} (h : BI c true s) (now : Int) : outF s now = [⟨1, 0, 1, 0, c, []⟩] ∧ BI c false (outL s now) := by
  obtain ⟨e, rfl, he⟩ := h
  exact ⟨rfl, e, rfl, he⟩
theorem BI_used {c : Nat} {o : Bool} {s : Lk} (h : BI c o s) : s.used = 0 ∧ s.came = c := by
  obtain ⟨e, rfl, he⟩ := h
  exact ⟨rfl, rfl⟩
theorem AI_in (last : Int) (A : Nat) (ops : List Op) : inL (AI last A ops) ⟨1, 0, 1, 0, ((A + ops.length : Nat) : Int), []⟩ = AI last (A + ops.length) [] := by
  have hF : forB (AI last A ops) ⟨1, 0, 1, 0, ((A + ops.length : Nat) : Int), []⟩ = true := by
    unfold forB AI newL Lk.used
    simp
  unfold inL
  rw [if_pos hF, if_pos rfl]
  unfold closeL AI newL
  simp
  omega
end linkNumbers
end Go.Proofs.Ytofigofaiadffaa
