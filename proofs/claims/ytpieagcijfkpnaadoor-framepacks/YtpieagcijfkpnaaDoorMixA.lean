/- Numbers and texts, one behind the other: what is written, what is read. -/
import Derived.Test.YtpieagcijfkpnaaDoorRow
namespace Go.Proofs.YtpieagcijfkpnaaDoor
open Go.RowKit

/-- What is written for place i. -/
def item (ns : List Int) (ts : List (List Nat)) (i : Nat) : List Nat := enc (foldN (ns.getD i 0)) ++ (enc (foldN (i : Int)) ++ encT (ts.getD i []))
/-- What is written for the places from k on, n of them. -/
def mixF (ns : List Int) (ts : List (List Nat)) (k n : Nat) : List Nat := (List.range' k n).flatMap (item ns ts)

theorem mixF_snoc (ns : List Int) (ts : List (List Nat)) (k : Nat) : mixF ns ts 0 (k + 1) = mixF ns ts 0 k ++ item ns ts k := by
  unfold mixF
  rw [List.range'_1_concat, List.flatMap_append, List.flatMap_singleton, Nat.zero_add]

theorem mixF_cons (ns : List Int) (ts : List (List Nat)) (k n : Nat) : mixF ns ts k (n + 1) = item ns ts k ++ mixF ns ts (k + 1) n := by
  unfold mixF
  rw [List.range'_succ, List.flatMap_cons]

theorem enc_len (u : Nat) : (enc u).length ≤ 10 := (encF_length 9 u).2

theorem item_len (ns : List Int) (ts : List (List Nat)) (i : Nat) (h : (ts.getD i []).length ≤ 500) : (item ns ts i).length ≤ 530 := by
  have h1 := enc_len (foldN (ns.getD i 0))
  have h2 := enc_len (foldN (i : Int))
  have h3 := enc_len (foldN ((ts.getD i []).length : Int))
  simp only [item, encT, List.length_append]; omega

theorem rdInt_enc (n : Int) (r : List Nat) (h1 : -9223372036854775808 ≤ n) (h2 : n ≤ 9223372036854775807) : rdInt (enc (foldN n) ++ r) false = (n, r, false) := by
  unfold rdInt
  rw [dec_enc _ _ (foldN_lt n h1 h2)]
  simp [unfold_fold]

theorem rdBytes_enc (bs r : List Nat) (h : bs.length ≤ 9223372036854775807) : rdBytes (encT bs ++ r) false = (bs, r, false) := by
  unfold rdBytes encT
  rw [List.append_assoc, rdInt_enc _ _ (by omega) (by omega)]
  simp only
  rw [if_neg (by simp only [List.length_append]; omega)]
  simp

/-- Two numbers behind what is there. -/
theorem mix_int (W : World) (a : Option Addr) (m cap : Nat) (Z : List Nat) (hm : Z.length = m) (hr : Reads W a (bV Z)) (hs : m ≤ 1000000000) (an : Option Addr) (x : Int) (k : Nat) (hx : -9223372036854775808 ≤ x ∧ x ≤ 9223372036854775807) (hk : k ≤ 1000)
    (hra : Reads W an (iV [x, (k : Int)])) :
    Calls Tryd.prog 16 #[.slice a m cap, .slice an 2 2] W fun e W' => ∃ g cap' m', e = .returned (.slice (some ⟨g, 0, none⟩) m' cap') ∧ Hid ((Z ++ (enc (foldN x) ++ enc (foldN (k : Int)))).length = m') ∧
      Hid (Reads W' (some ⟨g, 0, none⟩) (bV (Z ++ (enc (foldN x) ++ enc (foldN (k : Int)))))) ∧ Below W.heap.size W W' := by
  refine (int_any a m cap Z W hm hr hs an 2 2 [x, (k : Int)] rfl (by omega) (by intro y hy; simp at hy; omega) hra).mono ?_
  rintro e W' ⟨v, rfl, hv, ho, hb⟩
  have e1 : encs [x, (k : Int)] = enc (foldN x) ++ enc (foldN (k : Int)) := by simp [encs]
  rw [e1] at ho
  obtain ⟨g, cap', m', rfl, h1, _, _, _, h2⟩ := reads_own' ho hv
  exact ⟨g, cap', m', rfl, h1, h2, hb⟩

/-- A text behind what is there. -/
theorem mix_bytes (W : World) (a : Option Addr) (m cap : Nat) (Z : List Nat) (hm : Z.length = m) (hr : Reads W a (bV Z)) (hs : m ≤ 1000000000) (ar : Option Addr) (t : Txt) (ht : t.ok W) (htl : t.len ≤ 500)
    (hra : Reads W ar (sV [t])) :
    Calls Tryd.prog 17 #[.slice a m cap, .slice ar 1 1] W fun e W' => ∃ g cap' m', e = .returned (.slice (some ⟨g, 0, none⟩) m' cap') ∧ Hid ((Z ++ encT t.bs).length = m') ∧
      Hid (Reads W' (some ⟨g, 0, none⟩) (bV (Z ++ encT t.bs))) ∧ Below W.heap.size W W' := by
  have e1 : encTs [t] = encT t.bs := by simp [encTs]
  have hl := ht.1
  have h10 := enc_len (foldN (t.bs.length : Int))
  refine (bytes_any a m cap Z W hm hr ar 1 1 [t] rfl (by intro y hy; simp at hy; subst hy; exact ht) hra (by rw [e1]; simp only [encT, List.length_append]; omega) (by omega)).mono ?_
  rintro e W' ⟨v, rfl, hv, ho, hb⟩
  rw [e1] at ho
  obtain ⟨g, cap', m', rfl, h1, _, _, _, h2⟩ := reads_own' ho hv
  exact ⟨g, cap', m', rfl, h1, h2, hb⟩


theorem mix_eq {ns : List Int} {bss : List (List Nat)} {k : Nat} {x : Int} {tb : List Nat} (hx : ns.getD k 0 = x) (hb : bss.getD k [] = tb) :
    mixF ns bss 0 (k + 1) = mixF ns bss 0 k ++ (enc (foldN x) ++ enc (foldN (k : Int))) ++ encT tb := by
  rw [mixF_snoc, item, hx, hb]; simp

theorem mix_len {ns : List Int} {bss : List (List Nat)} {k m8 : Nat} {x : Int} {tb : List Nat} (hx : ns.getD k 0 = x) (hb : bss.getD k [] = tb) (h8 : (mixF ns bss 0 k ++ (enc (foldN x) ++ enc (foldN (k : Int))) ++ encT tb).length = m8) :
    Hid ((mixF ns bss 0 (k + 1)).length = m8) := by
  show _ = _
  rw [mix_eq hx hb]; exact h8

theorem mix_le {ns : List Int} {bss : List (List Nat)} {k m m8 tl : Nat} {x : Int} {tb : List Nat} (hx : ns.getD k 0 = x) (hb : bss.getD k [] = tb) (htl : tb.length = tl) (hs : tl ≤ 500)
    (h8 : (mixF ns bss 0 k ++ (enc (foldN x) ++ enc (foldN (k : Int))) ++ encT tb).length = m8) (hm : (mixF ns bss 0 k).length = m) (hmk : m ≤ 530 * k) : m8 ≤ 530 * (k + 1) := by
  have h := mix_len hx hb h8
  have h' : (mixF ns bss 0 (k + 1)).length = m8 := h
  rw [mixF_snoc, List.length_append, hm] at h'
  have := item_len ns bss k (by rw [hb]; omega)
  omega

theorem mix_reads {w : World} {a : Option Addr} {ns : List Int} {bss : List (List Nat)} {k : Nat} {x : Int} {tb : List Nat} (hx : ns.getD k 0 = x) (hb : bss.getD k [] = tb)
    (h : Reads w a (bV (mixF ns bss 0 k ++ (enc (foldN x) ++ enc (foldN (k : Int))) ++ encT tb))) : Hid (Reads w a (bV (mixF ns bss 0 (k + 1)))) := by
  show Reads _ _ _
  rw [mix_eq hx hb]; exact h

theorem mix_sz {ns : List Int} {bss : List (List Nat)} {k m m7 : Nat} {x : Int} (h7 : (mixF ns bss 0 k ++ (enc (foldN x) ++ enc (foldN (k : Int)))).length = m7) (hm : (mixF ns bss 0 k).length = m) (hmk : m ≤ 530 * k) (hk : k ≤ 1000) : m7 ≤ 1000000000 := by
  have h1 := enc_len (foldN x)
  have h2 := enc_len (foldN (k : Int))
  simp only [List.length_append] at h7
  omega

theorem cur_rd {w : World} {B T c : Nat} {bs r : List Nat} {n : Int} (h : Cur w B T c bs false) (hr : rdInt bs false = (n, r, false)) :
    Calls Tryd.prog 37 #[.pointer (some ⟨c, 0, none⟩)] w fun e w' => e = .returned (.int .i64 n) ∧ Cur w' B T c r false ∧ w.grownBy w' (some c) := by
  have h' := curInt_any B T c _ false w h
  rw [hr] at h'
  exact h'

theorem cur_rt {w : World} {B T c : Nat} {bs r x : List Nat} (h : Cur w B T c bs false) (hr : rdBytes bs false = (x, r, false)) :
    Calls Tryd.prog 38 #[.pointer (some ⟨c, 0, none⟩)] w fun e w' => ∃ v, e = .returned v ∧ w'.ownsRow w.heap.size 5 1 v x.length (bV x) ∧ Cur w' B T c r false ∧ w.grownBy w' (some c) := by
  have h' := curBytes_any B T c _ false w h
  rw [hr] at h'
  exact h'

theorem mix_split {ns : List Int} {bss : List (List Nat)} {j k : Nat} {x : Int} {tb : List Nat} (hx : ns.getD j 0 = x) (hb : bss.getD j [] = tb) (h : j < k) :
    mixF ns bss j (k - j) = enc (foldN x) ++ (enc (foldN (j : Int)) ++ (encT tb ++ mixF ns bss (j + 1) (k - (j + 1)))) := by
  rw [show k - j = (k - (j + 1)) + 1 from by omega, mixF_cons, item, hx, hb]; simp

theorem enc_byt' (n : Nat) (h : n ≤ 9223372036854775807) : Byt (enc (foldN (n : Int))) := enc_byt _ (by omega) (by omega)

theorem txt_small {w : World} {t : Txt} (h : t.ok w) : t.bs.length ≤ 9223372036854775807 := by
  obtain ⟨h1, _, ⟨h2, h3⟩, _⟩ := h
  unfold maxLen at h3
  omega

theorem encT_byt {bs : List Nat} (h : Byt bs) (hl : bs.length ≤ 9223372036854775807) : Byt (encT bs) := (enc_byt' _ hl).append h

theorem mix_byt {w : World} {ns : List Int} {ts : List Txt} {bss : List (List Nat)} {n : Nat} (hin : In64 ns) (hok : ∀ t ∈ ts, t.ok w) (hb : bss = ts.map Txt.bs) (h0 : n ≤ ns.length) (h1 : n ≤ ts.length) (hn : n ≤ 1000) : Byt (mixF ns bss 0 n) := by
  intro z hz
  simp only [mixF, List.mem_flatMap, List.mem_range'_1] at hz
  obtain ⟨i, hi, hz⟩ := hz
  have hi0 : i < ns.length := by omega
  have hi1 : i < ts.length := by omega
  have ht := hok ts[i] (List.getElem_mem _)
  have hi64 := hin ns[i] (List.getElem_mem _)
  have e : item ns bss i = enc (foldN ns[i]) ++ (enc (foldN (i : Int)) ++ encT ts[i].bs) := by
    rw [hb]; simp [item, List.getD, hi0, hi1]
  rw [e] at hz
  exact ((enc_byt _ hi64.1 hi64.2).append ((enc_byt' i (by omega)).append (encT_byt ht.2.1 (txt_small ht)))) z hz

theorem dec_at (bs : List Nat) (k u p : Nat) (h2 : k < 10) (h1 : p < bs.length) : decI (10 - k) k u (bs.drop p) =
    if k = 9 ∧ 1 < bs[p] then none else if 128 ≤ bs[p] then decI (10 - (k + 1)) (k + 1) (u + bs[p] % 128 * 2 ^ (7 * k)) (bs.drop (p + 1))
    else if 0 < k ∧ bs[p] = 0 then none else some (u + bs[p] % 128 * 2 ^ (7 * k), k + 1) := by
  rw [List.drop_eq_getElem_cons h1, show 10 - k = (9 - k) + 1 from by omega, decI, show 10 - (k + 1) = 9 - k from by omega]

end Go.Proofs.YtpieagcijfkpnaaDoor
