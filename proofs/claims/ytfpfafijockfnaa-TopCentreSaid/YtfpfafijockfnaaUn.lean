/- The law TopCentre: its loop. -/
import Derived.Test.YtfpfafijockfnaaUj
namespace Go.Proofs.Ytfpfafijockfnaa
open Go.RowKit Go.Shelf

/-- What lies in the boxes of the law. -/
structure TcB (w : World) (p : Press) (j : Jig) (a b : Slat) (A Y : Option Addr) (c cy : Nat) (ys : List Int) (W : World) : Prop where
  hb : Below w.heap.size w W
  k8 : Blk W w.heap.size 73 #[.slice A p.dies.length c, .int .i64 p.shrink.lo, .int .i64 p.shrink.hi, .int .i64 p.change]
  k11 : Blk W (w.heap.size + 1) 25 #[.int .i64 j.glue.lo, .int .i64 j.glue.hi, .int .i64 j.lead.lo, .int .i64 j.lead.hi, .int .i64 j.side.lo, .int .i64 j.side.hi, .int .i64 j.height.lo, .int .i64 j.height.hi, .int .i64 j.play, .int .i64 j.grooves]
  k12 : Blk W (w.heap.size + 1 + 1) 37 #[.int .i64 a.thick.lo, .int .i64 a.thick.hi, .int .i64 a.depth.lo, .int .i64 a.depth.hi, .int .i64 a.shift.lo, .int .i64 a.shift.hi, .int .i64 a.pitch.lo, .int .i64 a.pitch.hi]
  k13 : Blk W (w.heap.size + 1 + 1 + 1) 37 #[.int .i64 b.thick.lo, .int .i64 b.thick.hi, .int .i64 b.depth.lo, .int .i64 b.depth.hi, .int .i64 b.shift.lo, .int .i64 b.shift.hi, .int .i64 b.pitch.lo, .int .i64 b.pitch.hi]
  k15 : Blk W (w.heap.size + 1 + 1 + 1 + 1) 48 #[.slice Y ys.length cy]
section
variable {w : World} {p : Press} {j : Jig} {a b : Slat} {A Y : Option Addr} {c cy : Nat} {ys : List Int} {W W' : World}
theorem TcB.low (h : TcB w p j a b A Y c cy ys W) {B : Nat} (hb : Below B W W') (hB : (w.heap.size + 1 + 1 + 1 + 1) < B) : TcB w p j a b A Y c cy ys W' :=
  ⟨h.hb.trans (hb.mono (by omega)), h.k8.below hb (by omega), h.k11.below hb (by omega), h.k12.below hb (by omega), h.k13.below hb (by omega), h.k15.below hb (by omega)⟩
theorem TcB.call (h : TcB w p j a b A Y c cy ys W) (hb : Below W.heap.size W W') : TcB w p j a b A Y c cy ys W' := h.low hb h.k15.lt
theorem TcB.told (h : TcB w p j a b A Y c cy ys W) (l : Span) : TcB w p (j.told l) a b A Y c cy ys ((W.setCell ⟨w.heap.size + 1, 2, none⟩ (.int .i64 l.lo)).setCell ⟨w.heap.size + 1, 3, none⟩ (.int .i64 l.hi)) :=
  ⟨(h.hb.setCell (by simp only []; omega) _).setCell (by simp only []; omega) _, (h.k8.far (by simp only []; omega) _).far (by simp only []; omega) _, (h.k11.set_ 2 _).set_ 3 _, (h.k12.far (by simp only []; omega) _).far (by simp only []; omega) _, (h.k13.far (by simp only []; omega) _).far (by simp only []; omega) _, (h.k15.far (by simp only []; omega) _).far (by simp only []; omega) _⟩
end
/-- .. and what draws numbers. -/
structure TcS (w : World) (p : Press) (j : Jig) (a b : Slat) (A Y : Option Addr) (c cy : Nat) (ys : List Int) (ga k : Nat) (W : World) : Prop where
  of : TcB w p j a b A Y c cy ys W
  pk : PickS ga (w.heap.size + 1 + 1 + 1 + 1) w.heap.size Y cy ys k W
  lt : (w.heap.size + 1 + 1 + 1 + 1) < ga
section
variable {w : World} {p : Press} {j : Jig} {a b : Slat} {A Y : Option Addr} {c cy : Nat} {ys : List Int} {ga k : Nat} {W W' : World}
theorem TcS.call (h : TcS w p j a b A Y c cy ys ga k W) (hb : Below W.heap.size W W') : TcS w p j a b A Y c cy ys ga k W' := ⟨h.of.call hb, h.pk.keep hb h.of.hb.size, h.lt⟩
def RetTc (w : World) (p : Press) (j : Jig) (a b : Slat) (A Y : Option Addr) (c cy : Nat) (ys : List Int) (ga k : Nat) (lo hi : Int) (e : Ending) (W' : World) : Prop := ∃ v : Int, e = .returned (.int .i64 v) ∧ (lo ≤ v ∧ v ≤ hi) ∧ TcS w p j a b A Y c cy ys ga (k + 1) W'
theorem TcS.pick (h : TcS w p j a b A Y c cy ys ga k W) (hy : ys ≠ []) (hyl : ys.length ≤ 9223372036854775807) (hyb : ∀ y ∈ ys, 0 ≤ y ∧ y ≤ 65535) (lo hi : Int) (hk : k ≤ 100) (h0 : -1000000 ≤ lo) (h1 : lo ≤ hi) (h2 : hi ≤ 1000000) :
    Calls Try.prog 35 #[.agg #[.int .i64 lo, .int .i64 hi], .pointer (some ⟨ga, 0, none⟩), .pointer (some ⟨(w.heap.size + 1 + 1 + 1 + 1), 0, none⟩)] W (RetTc w p j a b A Y c cy ys ga k lo hi) := by
  refine (pick5_any ga (w.heap.size + 1 + 1 + 1 + 1) w.heap.size Y cy ys k lo hi W hk h0 h1 h2 hy hyl hyb h.pk h.lt (by omega)).mono ?_
  rintro e W' ⟨v, rfl, hv, hp, -, hb⟩
  exact ⟨v, rfl, hv, h.of.low hb h.lt, hp, h.lt⟩
end
theorem meas_ltU {N k : Nat} (h : k < N) : N - (intOf (.int .i64 ((k : Int) + 1))).toNat < N - (intOf (.int .i64 (k : Int))).toNat := by
  simp [intOf]; omega
theorem wri {x : Int} (h : -9223372036854775808 ≤ x) (h' : x ≤ 9223372036854775807) : IntKind.i64.wrap x = x := IntWalk.i64_in x ⟨h, h'⟩
theorem pick_bds {j : Jig} {a b : Slat} (hj : JigIn j) (ha : SlatIn a) (hb : SlatIn b) :
    (-1000000 ≤ a.thick.lo ∧ a.thick.lo ≤ a.thick.hi ∧ a.thick.hi ≤ 1000000) ∧ (-1000000 ≤ b.thick.lo ∧ b.thick.lo ≤ b.thick.hi ∧ b.thick.hi ≤ 1000000) ∧ (-1000000 ≤ a.depth.lo ∧ a.depth.lo ≤ a.depth.hi ∧ a.depth.hi ≤ 1000000) ∧ (-1000000 ≤ b.depth.lo ∧ b.depth.lo ≤ b.depth.hi ∧ b.depth.hi ≤ 1000000) ∧ (-1000000 ≤ j.glue.lo ∧ j.glue.lo ≤ j.glue.hi ∧ j.glue.hi ≤ 1000000) ∧ (-1000000 ≤ j.height.lo ∧ j.height.lo ≤ j.height.hi ∧ j.height.hi ≤ 1000000) ∧ (-1000000 ≤ a.shift.lo ∧ a.shift.lo ≤ a.shift.hi ∧ a.shift.hi ≤ 1000000) ∧ (-1000000 ≤ a.pitch.lo ∧ a.pitch.lo ≤ a.pitch.hi ∧ a.pitch.hi ≤ 1000000) ∧ (-1000000 ≤ b.shift.lo ∧ b.shift.lo ≤ b.shift.hi ∧ b.shift.hi ≤ 1000000) ∧ (-1000000 ≤ b.pitch.lo ∧ b.pitch.lo ≤ b.pitch.hi ∧ b.pitch.hi ≤ 1000000) ∧ (-1000000 ≤ j.side.lo ∧ j.side.lo ≤ j.side.hi ∧ j.side.hi ≤ 1000000) := by
  obtain ⟨jg0, jg1, jg2, jl0, jl1, jl2, js0, js1, js2, jh0, jh1, jh2, jp0, jp1, jn0, jn1⟩ := hj
  obtain ⟨at0, at1, at2, ad0, ad1, ad2, as0, as1, as2, ap0, ap1, ap2⟩ := ha
  obtain ⟨bt0, bt1, bt2, bd0, bd1, bd2, bs0, bs1, bs2, bp0, bp1, bp2⟩ := hb
  omega
theorem gra_yes {j : Jig} {a b : Slat} {x : List Int} {N : Nat} (hN : j.grooves = N) (h : graE j a b x = 0) : graL j a b x = gradesOf j a b x ∧ (graL j a b x).length = N := by
  unfold graE at h
  have h0 : graE0 j a b x = 0 ∧ alwaysB j a b = true := by
    split at h
    · rename_i h1
      split at h
      · rename_i h2; exact ⟨h1, h2⟩
      · cases h
    · rename_i h1; exact absurd h h1
  have e : graL j a b x = gradesOf j a b x := by unfold graL; rw [if_pos h0]
  exact ⟨e, by rw [e, grades_len, leads_len, hN]; simp⟩
theorem mul_self_nn (x : Int) : 0 ≤ x * x := by
  rcases Int.le_total 0 x with h | h
  · exact Int.mul_nonneg h h
  · exact Int.mul_nonneg_of_nonpos_of_nonpos h h
theorem gra_lims {j : Jig} {a b : Slat} {x : List Int} (h : graE j a b x = 0) : ∀ y ∈ x, 0 ≤ y ∧ y ≤ 1000 := by
  unfold graE at h
  split at h
  · rename_i h1; exact (gra_ok h1).2.2.2.2
  · rename_i h1; exact absurd h h1
theorem gra_at {j : Jig} {a b : Slat} {x : List Int} {k : Nat} (h : k < (gradesOf j a b x).length) : (gradesOf j a b x)[k] = gradeOf (leadOf j a b (k : Int)) x := by
  simp [gradesOf, leadsOf]
theorem le_of_own {w : World} {B : Nat} {e : TypeId} {size : Nat} {v : Value} {k : Nat} {xs : List Value} (hr : w.ownsRow B e size v k xs) : k ≤ 9223372036854775807 := by
  rcases hr.2 with ⟨rfl, h⟩ | ⟨g, cap, cur, rfl, h1, h2, h3, h4, h5⟩
  · omega
  · have : maxLen ≤ 9223372036854775807 := by unfold maxLen; omega
    omega
/-- A region of a code, by its number. -/
def regAt (k : Nat) : Code → Option Code
  | .region n x y => bif n == k then some (.region n x y) else none
  | .seq a b => match regAt k a with
    | some c => some c
    | none => regAt k b
  | .cond _ a b => match regAt k a with
    | some c => some c
    | none => regAt k b
  | .block _ c => regAt k c
  | .scope c => regAt k c
  | .loop c => regAt k c
  | _ => none
noncomputable def reg27 : Code := (((Try.f11.body).bind (regAt 27)).getD .skip)
set_option maxRecDepth 100000 in
set_option maxHeartbeats 4000000 in
theorem last27 (g9 bC oC k q gl c2 xl cx : Nat) (lim out up : Int) (W : World) (hk0 : (0 : Int) ≤ k) (hkl : (k : Int) < gl) (hq0 : (0 : Int) ≤ q) (hq1 : (q : Int) < xl)
    (z1 : IntKind.i64.wrap (1000000 * out) = 1000000 * out) (z2 : IntKind.i64.wrap (1000000 * out * out) = 1000000 * out * out) (z3 : IntKind.i64.wrap (up * up) = up * up) (z4 : IntKind.i64.wrap (1000000 * out * out + up * up) = 1000000 * out * out + up * up)
    (z5 : IntKind.i64.wrap (4000000 * lim) = 4000000 * lim) (z6 : IntKind.i64.wrap (4000000 * lim * lim) = 4000000 * lim * lim) (z7 : ¬ 4000000 * lim * lim < 1000000 * out * out + up * up)
    (hc : W.cell? ⟨g9, k, none⟩ = some (.int .i64 (q : Int))) (hl : W.cell? ⟨bC, oC + q, none⟩ = some (.int .i64 lim)) (Q : Exit → Act → World → Prop)
    (d0 d1 d2 d3 d4 d5 d7 d8 d9 d10 d11 d12 d13 d14 d15 d16 d17 d18 d19 d20 d21 d22 d23 d24 d25 d26 d27 d28 d29 d30 d31 d32 d34 d35 d37 d39 d40 d41 d43 d44 d45 d46 d47 d48 d49 d50 d51 d52 d53 d54 d55 d56 d57 d58 d59 d60 d61 d62 d63 d64 d65 d66 d67 d68 d69 d70 d71 d72 d73 d74 d75 d76 d77 d78 d79 d80 d81 d82 d83 d84 d85 d86 d87 d88 d89 d90 d91 d92 d93 d94 d95 d96 d97 d98 d99 d100 d101 d102 d103 d104 d105 d106 d107 d108 d109 d110 d111 d112 d113 d114 d115 d116 d117 d118 d119 d120 d121 d122 d123 d124 d125 d126 d127 d128 d129 d130 d131 d132 d133 d134 d135 d136 d137 d138 d139 d140 d141 d142 d143 d144 d145 d146 d147 d148 d149 d150 d151 d152 d153 d154 d155 d156 d157 d158 d159 d160 d161 d162 d163 d164 d165 d166 d167 d168 d169 d170 d171 d172 d173 d174 d175 d176 d177 d178 d179 d180 d181 d182 d183 d184 d185 d186 d187 d188 d189 d190 d191 d192 d193 d194 d195 d196 d197 d198 d199 d200 d201 d202 d203 d204 d205 d206 d207 d208 d209 d210 d211 d212 d213 d214 d215 d216 d217 d218 d219 d220 d221 d222 d223 d224 d225 d226 d227 d228 d229 d230 d231 d232 d233 d234 d235 d236 d237 d238 d239 d240 d241 d242 d243 d244 d245 d246 d247 d248 d249 d250 d251 d252 d253 d254 d255 d256 d257 d258 d259 d260 d261 d262 d263 d264 d265 d266 d267 d268 d269 d270 d271 d272 d273 d274 d275 d276 d277 d278 d279 d280 d281 d282 d283 d284 d285 d286 d287 d288 d289 d290 d291 d292 d293 d294 d295 d296 d297 d298 d299 d300 d301 d302 d303 d304 d305 d306 d307 d308 d309 d310 d311 d312 d313 d314 d315 d316 d317 d318 d319 d320 d321 d322 d323 d324 d325 d326 d327 d328 d329 d330 d331 d332 d333 d334 d335 d336 d337 d338 : Value)
    (hP : ∀ ch (a1 : Act) d v w1, Q (.panic ch) (a1.put d v) w1 → Q (.panic ch) a1 w1) (hQ : ∀ (u297 u298 u299 u300 u301 u302 u303 u304 u305 u306 u307 u308 u309 u310 u311 u312 u313 u314 u315 u316 u317 u318 u319 u320 u321 u322 u323 u324 u325 u326 u327 u328 u329 u330 u331 u332 u333 u334 u335 u336 : Value), Q .normal ⟨List.toArray (d0 :: d1 :: d2 :: d3 :: d4 :: d5 :: .slice (some ⟨bC, oC, none⟩) xl cx :: d7 :: d8 :: d9 :: d10 :: d11 :: d12 :: d13 :: d14 :: d15 :: d16 :: d17 :: d18 :: d19 :: d20 :: d21 :: d22 :: d23 :: d24 :: d25 :: d26 :: d27 :: d28 :: d29 :: d30 :: d31 :: d32 :: .int .i64 up :: d34 :: d35 :: .slice (some ⟨g9, 0, none⟩) gl c2 :: d37 :: .int .i64 (k : Int) :: d39 :: d40 :: d41 :: .int .i64 out :: d43 :: d44 :: d45 :: d46 :: d47 :: d48 :: d49 :: d50 :: d51 :: d52 :: d53 :: d54 :: d55 :: d56 :: d57 :: d58 :: d59 :: d60 :: d61 :: d62 :: d63 :: d64 :: d65 :: d66 :: d67 :: d68 :: d69 :: d70 :: d71 :: d72 :: d73 :: d74 :: d75 :: d76 :: d77 :: d78 :: d79 :: d80 :: d81 :: d82 :: d83 :: d84 :: d85 :: d86 :: d87 :: d88 :: d89 :: d90 :: d91 :: d92 :: d93 :: d94 :: d95 :: d96 :: d97 :: d98 :: d99 :: d100 :: d101 :: d102 :: d103 :: d104 :: d105 :: d106 :: d107 :: d108 :: d109 :: d110 :: d111 :: d112 :: d113 :: d114 :: d115 :: d116 :: d117 :: d118 :: d119 :: d120 :: d121 :: d122 :: d123 :: d124 :: d125 :: d126 :: d127 :: d128 :: d129 :: d130 :: d131 :: d132 :: d133 :: d134 :: d135 :: d136 :: d137 :: d138 :: d139 :: d140 :: d141 :: d142 :: d143 :: d144 :: d145 :: d146 :: d147 :: d148 :: d149 :: d150 :: d151 :: d152 :: d153 :: d154 :: d155 :: d156 :: d157 :: d158 :: d159 :: d160 :: d161 :: d162 :: d163 :: d164 :: d165 :: d166 :: d167 :: d168 :: d169 :: d170 :: d171 :: d172 :: d173 :: d174 :: d175 :: d176 :: d177 :: d178 :: d179 :: d180 :: d181 :: d182 :: d183 :: d184 :: d185 :: d186 :: d187 :: d188 :: d189 :: d190 :: d191 :: d192 :: d193 :: d194 :: d195 :: d196 :: d197 :: d198 :: d199 :: d200 :: d201 :: d202 :: d203 :: d204 :: d205 :: d206 :: d207 :: d208 :: d209 :: d210 :: d211 :: d212 :: d213 :: d214 :: d215 :: d216 :: d217 :: d218 :: d219 :: d220 :: d221 :: d222 :: d223 :: d224 :: d225 :: d226 :: d227 :: d228 :: d229 :: d230 :: d231 :: d232 :: d233 :: d234 :: d235 :: d236 :: d237 :: d238 :: d239 :: d240 :: d241 :: d242 :: d243 :: d244 :: d245 :: d246 :: d247 :: d248 :: d249 :: d250 :: d251 :: d252 :: d253 :: d254 :: d255 :: d256 :: d257 :: d258 :: d259 :: d260 :: d261 :: d262 :: d263 :: d264 :: d265 :: d266 :: d267 :: d268 :: d269 :: d270 :: d271 :: d272 :: d273 :: d274 :: d275 :: d276 :: d277 :: d278 :: d279 :: d280 :: d281 :: d282 :: d283 :: d284 :: d285 :: d286 :: d287 :: d288 :: d289 :: d290 :: d291 :: d292 :: d293 :: d294 :: d295 :: d296 :: u297 :: u298 :: u299 :: u300 :: u301 :: u302 :: u303 :: u304 :: u305 :: u306 :: u307 :: u308 :: u309 :: u310 :: u311 :: u312 :: u313 :: u314 :: u315 :: u316 :: u317 :: u318 :: u319 :: u320 :: u321 :: u322 :: u323 :: u324 :: u325 :: u326 :: u327 :: u328 :: u329 :: u330 :: u331 :: u332 :: u333 :: u334 :: u335 :: u336 :: .bool false :: d338 :: []), []⟩ W.drew) :
    Code.wp Try.prog reg27 Q ⟨List.toArray (d0 :: d1 :: d2 :: d3 :: d4 :: d5 :: .slice (some ⟨bC, oC, none⟩) xl cx :: d7 :: d8 :: d9 :: d10 :: d11 :: d12 :: d13 :: d14 :: d15 :: d16 :: d17 :: d18 :: d19 :: d20 :: d21 :: d22 :: d23 :: d24 :: d25 :: d26 :: d27 :: d28 :: d29 :: d30 :: d31 :: d32 :: .int .i64 up :: d34 :: d35 :: .slice (some ⟨g9, 0, none⟩) gl c2 :: d37 :: .int .i64 (k : Int) :: d39 :: d40 :: d41 :: .int .i64 out :: d43 :: d44 :: d45 :: d46 :: d47 :: d48 :: d49 :: d50 :: d51 :: d52 :: d53 :: d54 :: d55 :: d56 :: d57 :: d58 :: d59 :: d60 :: d61 :: d62 :: d63 :: d64 :: d65 :: d66 :: d67 :: d68 :: d69 :: d70 :: d71 :: d72 :: d73 :: d74 :: d75 :: d76 :: d77 :: d78 :: d79 :: d80 :: d81 :: d82 :: d83 :: d84 :: d85 :: d86 :: d87 :: d88 :: d89 :: d90 :: d91 :: d92 :: d93 :: d94 :: d95 :: d96 :: d97 :: d98 :: d99 :: d100 :: d101 :: d102 :: d103 :: d104 :: d105 :: d106 :: d107 :: d108 :: d109 :: d110 :: d111 :: d112 :: d113 :: d114 :: d115 :: d116 :: d117 :: d118 :: d119 :: d120 :: d121 :: d122 :: d123 :: d124 :: d125 :: d126 :: d127 :: d128 :: d129 :: d130 :: d131 :: d132 :: d133 :: d134 :: d135 :: d136 :: d137 :: d138 :: d139 :: d140 :: d141 :: d142 :: d143 :: d144 :: d145 :: d146 :: d147 :: d148 :: d149 :: d150 :: d151 :: d152 :: d153 :: d154 :: d155 :: d156 :: d157 :: d158 :: d159 :: d160 :: d161 :: d162 :: d163 :: d164 :: d165 :: d166 :: d167 :: d168 :: d169 :: d170 :: d171 :: d172 :: d173 :: d174 :: d175 :: d176 :: d177 :: d178 :: d179 :: d180 :: d181 :: d182 :: d183 :: d184 :: d185 :: d186 :: d187 :: d188 :: d189 :: d190 :: d191 :: d192 :: d193 :: d194 :: d195 :: d196 :: d197 :: d198 :: d199 :: d200 :: d201 :: d202 :: d203 :: d204 :: d205 :: d206 :: d207 :: d208 :: d209 :: d210 :: d211 :: d212 :: d213 :: d214 :: d215 :: d216 :: d217 :: d218 :: d219 :: d220 :: d221 :: d222 :: d223 :: d224 :: d225 :: d226 :: d227 :: d228 :: d229 :: d230 :: d231 :: d232 :: d233 :: d234 :: d235 :: d236 :: d237 :: d238 :: d239 :: d240 :: d241 :: d242 :: d243 :: d244 :: d245 :: d246 :: d247 :: d248 :: d249 :: d250 :: d251 :: d252 :: d253 :: d254 :: d255 :: d256 :: d257 :: d258 :: d259 :: d260 :: d261 :: d262 :: d263 :: d264 :: d265 :: d266 :: d267 :: d268 :: d269 :: d270 :: d271 :: d272 :: d273 :: d274 :: d275 :: d276 :: d277 :: d278 :: d279 :: d280 :: d281 :: d282 :: d283 :: d284 :: d285 :: d286 :: d287 :: d288 :: d289 :: d290 :: d291 :: d292 :: d293 :: d294 :: d295 :: d296 :: d297 :: d298 :: d299 :: d300 :: d301 :: d302 :: d303 :: d304 :: d305 :: d306 :: d307 :: d308 :: d309 :: d310 :: d311 :: d312 :: d313 :: d314 :: d315 :: d316 :: d317 :: d318 :: d319 :: d320 :: d321 :: d322 :: d323 :: d324 :: d325 :: d326 :: d327 :: d328 :: d329 :: d330 :: d331 :: d332 :: d333 :: d334 :: d335 :: d336 :: d337 :: d338 :: []), []⟩ W := by
  have hq4 : ¬ (xl : Int) ≤ q := Int.not_le.2 hq1
  have hq5 : ¬ (q : Int) < 0 := Int.not_lt.2 hq0
  have HQ := Lib.hid hQ
  have HC := Lib.hid hc
  have HL := Lib.hid hl
  clear hQ hc hl
  conv => arg 2; whnf
  refine wp_region_held_drew (S := fun W => W.cell? ⟨g9, k, none⟩ = some (.int .i64 (q : Int)) ∧ W.cell? ⟨bC, oC + q, none⟩ = some (.int .i64 lim)) (by kernel_rfl) ⟨HC.out, HL.out⟩ (fun hH0 => ?_)
  generalize World.drew _ = V0 at *
  simp only [List.size_toArray, List.length_cons, List.length_nil, Nat.reduceAdd, Array.replicate_succ, Array.replicate_zero, List.push_toArray, List.nil_append, List.cons_append]
  refine wpAnyH_take (i := 0 ) (v := ?_) rfl (by kernel_rfl) (by kernel_rfl) (by kernel_rfl) (fun _ _ _ h => hP _ _ _ _ _ h) (Or.inl ⟨by rfl, ?_⟩) (by assumption) ?_; rotate_left; (· (intro w0 hSw; obtain ⟨u0, u1⟩ := hSw; go_simp); first | done | with_reducible rfl); (try simp only [Act.put, List.getElem_toArray, List.getElem_cons_zero, List.setIfInBounds_toArray, List.set_cons_zero, List.set_cons_succ])
  refine wpAnyH_take (i := 1 ) (v := ?_) rfl (by kernel_rfl) (by kernel_rfl) (by kernel_rfl) (fun _ _ _ h => hP _ _ _ _ _ h) (Or.inl ⟨by rfl, ?_⟩) (by assumption) ?_; rotate_left; (· (intro w0 hSw; obtain ⟨u0, u1⟩ := hSw; go_simp); first | done | with_reducible rfl); (try simp only [Act.put, List.getElem_toArray, List.getElem_cons_succ, List.getElem_cons_zero, List.setIfInBounds_toArray, List.set_cons_zero, List.set_cons_succ])
  refine wpAnyH_take (i := 2 ) (v := ?_) rfl (by kernel_rfl) (by kernel_rfl) (by kernel_rfl) (fun _ _ _ h => hP _ _ _ _ _ h) (Or.inl ⟨by rfl, ?_⟩) (by assumption) ?_; rotate_left; (· (intro w0 hSw; obtain ⟨u0, u1⟩ := hSw; go_simp); first | done | with_reducible rfl); (try simp only [Act.put, List.getElem_toArray, List.getElem_cons_succ, List.getElem_cons_zero, List.setIfInBounds_toArray, List.set_cons_zero, List.set_cons_succ])
  refine wpAnyH_take (i := 3 ) (v := ?_) rfl (by kernel_rfl) (by kernel_rfl) (by kernel_rfl) (fun _ _ _ h => hP _ _ _ _ _ h) (Or.inl ⟨by rfl, ?_⟩) (by assumption) ?_; rotate_left; (· (intro w0 hSw; obtain ⟨u0, u1⟩ := hSw; go_simp); first | done | with_reducible rfl); (try simp only [Act.put, List.getElem_toArray, List.getElem_cons_succ, List.getElem_cons_zero, List.setIfInBounds_toArray, List.set_cons_zero, List.set_cons_succ])
  refine wpAnyH_take (i := 4 ) (v := ?_) rfl (by kernel_rfl) (by kernel_rfl) (by kernel_rfl) (fun _ _ _ h => hP _ _ _ _ _ h) (Or.inl ⟨by rfl, ?_⟩) (by assumption) ?_; rotate_left; (· (intro w0 hSw; obtain ⟨u0, u1⟩ := hSw; go_simp); first | done | with_reducible rfl); (try simp only [Act.put, List.getElem_toArray, List.getElem_cons_succ, List.getElem_cons_zero, List.setIfInBounds_toArray, List.set_cons_zero, List.set_cons_succ])
  refine wpAnyH_take (i := 5 ) (v := ?_) rfl (by kernel_rfl) (by kernel_rfl) (by kernel_rfl) (fun _ _ _ h => hP _ _ _ _ _ h) (Or.inl ⟨by rfl, ?_⟩) (by assumption) ?_; rotate_left; (· (intro w0 hSw; obtain ⟨u0, u1⟩ := hSw; go_simp); first | done | with_reducible rfl); (try simp only [Act.put, List.getElem_toArray, List.getElem_cons_succ, List.getElem_cons_zero, List.setIfInBounds_toArray, List.set_cons_zero, List.set_cons_succ])
  refine wpAnyH_take (i := 6 ) (v := ?_) rfl (by kernel_rfl) (by kernel_rfl) (by kernel_rfl) (fun _ _ _ h => hP _ _ _ _ _ h) (Or.inl ⟨by rfl, ?_⟩) (by assumption) ?_; rotate_left; (· (intro w0 hSw; obtain ⟨u0, u1⟩ := hSw; go_simp); first | done | with_reducible rfl); (try simp only [Act.put, List.getElem_toArray, List.getElem_cons_succ, List.getElem_cons_zero, List.setIfInBounds_toArray, List.set_cons_zero, List.set_cons_succ])
  refine wpAnyH_take (i := 7 ) (v := ?_) rfl (by kernel_rfl) (by kernel_rfl) (by kernel_rfl) (fun _ _ _ h => hP _ _ _ _ _ h) (Or.inl ⟨by rfl, ?_⟩) (by assumption) ?_; rotate_left; (· (intro w0 hSw; obtain ⟨u0, u1⟩ := hSw; go_simp); first | done | with_reducible rfl); (try simp only [Act.put, List.getElem_toArray, List.getElem_cons_succ, List.getElem_cons_zero, List.setIfInBounds_toArray, List.set_cons_zero, List.set_cons_succ])
  refine wpAnyH_take (i := 8 ) (v := ?_) rfl (by kernel_rfl) (by kernel_rfl) (by kernel_rfl) (fun _ _ _ h => hP _ _ _ _ _ h) (Or.inl ⟨by rfl, ?_⟩) (by assumption) ?_; rotate_left; (· (intro w0 hSw; obtain ⟨u0, u1⟩ := hSw; go_simp); first | done | with_reducible rfl); (try simp only [Act.put, List.getElem_toArray, List.getElem_cons_succ, List.getElem_cons_zero, List.setIfInBounds_toArray, List.set_cons_zero, List.set_cons_succ])
  refine wpAnyH_take (i := 9 ) (v := ?_) rfl (by kernel_rfl) (by kernel_rfl) (by kernel_rfl) (fun _ _ _ h => hP _ _ _ _ _ h) (Or.inl ⟨by rfl, ?_⟩) (by assumption) ?_; rotate_left; (· (intro w0 hSw; obtain ⟨u0, u1⟩ := hSw; go_simp); first | done | with_reducible rfl); (try simp only [Act.put, List.getElem_toArray, List.getElem_cons_succ, List.getElem_cons_zero, List.setIfInBounds_toArray, List.set_cons_zero, List.set_cons_succ])
  refine wpAnyH_take (i := 10 ) (v := ?_) rfl (by kernel_rfl) (by kernel_rfl) (by kernel_rfl) (fun _ _ _ h => hP _ _ _ _ _ h) (Or.inl ⟨by rfl, ?_⟩) (by assumption) ?_; rotate_left; (· (intro w0 hSw; obtain ⟨u0, u1⟩ := hSw; go_simp); first | done | with_reducible rfl); (try simp only [Act.put, List.getElem_toArray, List.getElem_cons_succ, List.getElem_cons_zero, List.setIfInBounds_toArray, List.set_cons_zero, List.set_cons_succ])
  refine wpAnyH_take (i := 11 ) (v := ?_) rfl (by kernel_rfl) (by kernel_rfl) (by kernel_rfl) (fun _ _ _ h => hP _ _ _ _ _ h) (Or.inl ⟨by rfl, ?_⟩) (by assumption) ?_; rotate_left; (· (intro w0 hSw; obtain ⟨u0, u1⟩ := hSw; go_simp); first | done | with_reducible rfl); (try simp only [Act.put, List.getElem_toArray, List.getElem_cons_succ, List.getElem_cons_zero, List.setIfInBounds_toArray, List.set_cons_zero, List.set_cons_succ])
  refine wpAnyH_take (i := 12 ) (v := ?_) rfl (by kernel_rfl) (by kernel_rfl) (by kernel_rfl) (fun _ _ _ h => hP _ _ _ _ _ h) (Or.inl ⟨by rfl, ?_⟩) (by assumption) ?_; rotate_left; (· (intro w0 hSw; obtain ⟨u0, u1⟩ := hSw; go_simp); first | done | with_reducible rfl); (try simp only [Act.put, List.getElem_toArray, List.getElem_cons_succ, List.getElem_cons_zero, List.setIfInBounds_toArray, List.set_cons_zero, List.set_cons_succ])
  refine wpAnyH_take (i := 13 ) (v := ?_) rfl (by kernel_rfl) (by kernel_rfl) (by kernel_rfl) (fun _ _ _ h => hP _ _ _ _ _ h) (Or.inl ⟨by rfl, ?_⟩) (by assumption) ?_; rotate_left; (· (intro w0 hSw; obtain ⟨u0, u1⟩ := hSw; go_simp); first | done | with_reducible rfl); (try simp only [Act.put, List.getElem_toArray, List.getElem_cons_succ, List.getElem_cons_zero, List.setIfInBounds_toArray, List.set_cons_zero, List.set_cons_succ])
  refine wpAnyH_take (i := 14 ) (v := ?_) rfl (by kernel_rfl) (by kernel_rfl) (by kernel_rfl) (fun _ _ _ h => hP _ _ _ _ _ h) (Or.inl ⟨by rfl, ?_⟩) (by assumption) ?_; rotate_left; (· (intro w0 hSw; obtain ⟨u0, u1⟩ := hSw; go_simp); first | done | with_reducible rfl); (try simp only [Act.put, List.getElem_toArray, List.getElem_cons_succ, List.getElem_cons_zero, List.setIfInBounds_toArray, List.set_cons_zero, List.set_cons_succ])
  refine wpAnyH_take (i := 15 ) (v := ?_) rfl (by kernel_rfl) (by kernel_rfl) (by kernel_rfl) (fun _ _ _ h => hP _ _ _ _ _ h) (Or.inl ⟨by rfl, ?_⟩) (by assumption) ?_; rotate_left; (· (intro w0 hSw; obtain ⟨u0, u1⟩ := hSw; go_simp); first | done | with_reducible rfl); (try simp only [Act.put, List.getElem_toArray, List.getElem_cons_succ, List.getElem_cons_zero, List.setIfInBounds_toArray, List.set_cons_zero, List.set_cons_succ])
  refine wpAnyH_take (i := 16 ) (v := ?_) rfl (by kernel_rfl) (by kernel_rfl) (by kernel_rfl) (fun _ _ _ h => hP _ _ _ _ _ h) (Or.inl ⟨by rfl, ?_⟩) (by assumption) ?_; rotate_left; (· (intro w0 hSw; obtain ⟨u0, u1⟩ := hSw; go_simp); first | done | with_reducible rfl); (try simp only [Act.put, List.getElem_toArray, List.getElem_cons_succ, List.getElem_cons_zero, List.setIfInBounds_toArray, List.set_cons_zero, List.set_cons_succ])
  refine wpAnyH_take (i := 17 ) (v := ?_) rfl (by kernel_rfl) (by kernel_rfl) (by kernel_rfl) (fun _ _ _ h => hP _ _ _ _ _ h) (Or.inl ⟨by rfl, ?_⟩) (by assumption) ?_; rotate_left; (· (intro w0 hSw; obtain ⟨u0, u1⟩ := hSw; go_simp); first | done | with_reducible rfl); (try simp only [Act.put, List.getElem_toArray, List.getElem_cons_succ, List.getElem_cons_zero, List.setIfInBounds_toArray, List.set_cons_zero, List.set_cons_succ])
  refine wpAnyH_take (i := 18 ) (v := ?_) rfl (by kernel_rfl) (by kernel_rfl) (by kernel_rfl) (fun _ _ _ h => hP _ _ _ _ _ h) (Or.inl ⟨by rfl, ?_⟩) (by assumption) ?_; rotate_left; (· (intro w0 hSw; obtain ⟨u0, u1⟩ := hSw; go_simp); first | done | with_reducible rfl); (try simp only [Act.put, List.getElem_toArray, List.getElem_cons_succ, List.getElem_cons_zero, List.setIfInBounds_toArray, List.set_cons_zero, List.set_cons_succ])
  refine wpAnyH_take (i := 19 ) (v := ?_) rfl (by kernel_rfl) (by kernel_rfl) (by kernel_rfl) (fun _ _ _ h => hP _ _ _ _ _ h) (Or.inl ⟨by rfl, ?_⟩) (by assumption) ?_; rotate_left; (· (intro w0 hSw; obtain ⟨u0, u1⟩ := hSw; go_simp); first | done | with_reducible rfl); (try simp only [Act.put, List.getElem_toArray, List.getElem_cons_succ, List.getElem_cons_zero, List.setIfInBounds_toArray, List.set_cons_zero, List.set_cons_succ])
  refine wpAnyH_take (i := 20 ) (v := ?_) rfl (by kernel_rfl) (by kernel_rfl) (by kernel_rfl) (fun _ _ _ h => hP _ _ _ _ _ h) (Or.inl ⟨by rfl, ?_⟩) (by assumption) ?_; rotate_left; (· (intro w0 hSw; obtain ⟨u0, u1⟩ := hSw; go_simp); first | done | with_reducible rfl); (try simp only [Act.put, List.getElem_toArray, List.getElem_cons_succ, List.getElem_cons_zero, List.setIfInBounds_toArray, List.set_cons_zero, List.set_cons_succ])
  refine wpAnyH_take (i := 21 ) (v := ?_) rfl (by kernel_rfl) (by kernel_rfl) (by kernel_rfl) (fun _ _ _ h => hP _ _ _ _ _ h) (Or.inl ⟨by rfl, ?_⟩) (by assumption) ?_; rotate_left; (· (intro w0 hSw; obtain ⟨u0, u1⟩ := hSw; go_simp); first | done | with_reducible rfl); (try simp only [Act.put, List.getElem_toArray, List.getElem_cons_succ, List.getElem_cons_zero, List.setIfInBounds_toArray, List.set_cons_zero, List.set_cons_succ])
  refine wpAnyH_take (i := 22 ) (v := ?_) rfl (by kernel_rfl) (by kernel_rfl) (by kernel_rfl) (fun _ _ _ h => hP _ _ _ _ _ h) (Or.inl ⟨by rfl, ?_⟩) (by assumption) ?_; rotate_left; (· (intro w0 hSw; obtain ⟨u0, u1⟩ := hSw; go_simp); first | done | with_reducible rfl); (try simp only [Act.put, List.getElem_toArray, List.getElem_cons_succ, List.getElem_cons_zero, List.setIfInBounds_toArray, List.set_cons_zero, List.set_cons_succ])
  refine wpAnyH_take (i := 23 ) (v := ?_) rfl (by kernel_rfl) (by kernel_rfl) (by kernel_rfl) (fun _ _ _ h => hP _ _ _ _ _ h) (Or.inl ⟨by rfl, ?_⟩) (by assumption) ?_; rotate_left; (· (intro w0 hSw; obtain ⟨u0, u1⟩ := hSw; go_simp); first | done | with_reducible rfl); (try simp only [Act.put, List.getElem_toArray, List.getElem_cons_succ, List.getElem_cons_zero, List.setIfInBounds_toArray, List.set_cons_zero, List.set_cons_succ])
  refine wpAnyH_take (i := 24 ) (v := ?_) rfl (by kernel_rfl) (by kernel_rfl) (by kernel_rfl) (fun _ _ _ h => hP _ _ _ _ _ h) (Or.inl ⟨by rfl, ?_⟩) (by assumption) ?_; rotate_left; (· (intro w0 hSw; obtain ⟨u0, u1⟩ := hSw; go_simp); first | done | with_reducible rfl); (try simp only [Act.put, List.getElem_toArray, List.getElem_cons_succ, List.getElem_cons_zero, List.setIfInBounds_toArray, List.set_cons_zero, List.set_cons_succ])
  refine wpAnyH_take (i := 25 ) (v := ?_) rfl (by kernel_rfl) (by kernel_rfl) (by kernel_rfl) (fun _ _ _ h => hP _ _ _ _ _ h) (Or.inl ⟨by rfl, ?_⟩) (by assumption) ?_; rotate_left; (· (intro w0 hSw; obtain ⟨u0, u1⟩ := hSw; go_simp); first | done | with_reducible rfl); (try simp only [Act.put, List.getElem_toArray, List.getElem_cons_succ, List.getElem_cons_zero, List.setIfInBounds_toArray, List.set_cons_zero, List.set_cons_succ])
  refine wpAnyH_take (i := 26 ) (v := ?_) rfl (by kernel_rfl) (by kernel_rfl) (by kernel_rfl) (fun _ _ _ h => hP _ _ _ _ _ h) (Or.inl ⟨by rfl, ?_⟩) (by assumption) ?_; rotate_left; (· (intro w0 hSw; obtain ⟨u0, u1⟩ := hSw; go_simp); first | done | with_reducible rfl); (try simp only [Act.put, List.getElem_toArray, List.getElem_cons_succ, List.getElem_cons_zero, List.setIfInBounds_toArray, List.set_cons_zero, List.set_cons_succ])
  refine wpAnyH_take (i := 27 ) (v := ?_) rfl (by kernel_rfl) (by kernel_rfl) (by kernel_rfl) (fun _ _ _ h => hP _ _ _ _ _ h) (Or.inl ⟨by rfl, ?_⟩) (by assumption) ?_; rotate_left; (· (intro w0 hSw; obtain ⟨u0, u1⟩ := hSw; go_simp); first | done | with_reducible rfl); (try simp only [Act.put, List.getElem_toArray, List.getElem_cons_succ, List.getElem_cons_zero, List.setIfInBounds_toArray, List.set_cons_zero, List.set_cons_succ])
  refine wpAnyH_take (i := 28 ) (v := ?_) rfl (by kernel_rfl) (by kernel_rfl) (by kernel_rfl) (fun _ _ _ h => hP _ _ _ _ _ h) (Or.inl ⟨by rfl, ?_⟩) (by assumption) ?_; rotate_left; (· (intro w0 hSw; obtain ⟨u0, u1⟩ := hSw; go_simp); first | done | with_reducible rfl); (try simp only [Act.put, List.getElem_toArray, List.getElem_cons_succ, List.getElem_cons_zero, List.setIfInBounds_toArray, List.set_cons_zero, List.set_cons_succ])
  refine wpAnyH_take (i := 29 ) (v := ?_) rfl (by kernel_rfl) (by kernel_rfl) (by kernel_rfl) (fun _ _ _ h => hP _ _ _ _ _ h) (Or.inl ⟨by rfl, ?_⟩) (by assumption) ?_; rotate_left; (· (intro w0 hSw; obtain ⟨u0, u1⟩ := hSw; go_simp); first | done | with_reducible rfl); (try simp only [Act.put, List.getElem_toArray, List.getElem_cons_succ, List.getElem_cons_zero, List.setIfInBounds_toArray, List.set_cons_zero, List.set_cons_succ])
  refine wpAnyH_take (i := 30 ) (v := ?_) rfl (by kernel_rfl) (by kernel_rfl) (by kernel_rfl) (fun _ _ _ h => hP _ _ _ _ _ h) (Or.inl ⟨by rfl, ?_⟩) (by assumption) ?_; rotate_left; (· (intro w0 hSw; obtain ⟨u0, u1⟩ := hSw; go_simp); first | done | with_reducible rfl); (try simp only [Act.put, List.getElem_toArray, List.getElem_cons_succ, List.getElem_cons_zero, List.setIfInBounds_toArray, List.set_cons_zero, List.set_cons_succ])
  refine wpAnyH_take (i := 31 ) (v := ?_) rfl (by kernel_rfl) (by kernel_rfl) (by kernel_rfl) (fun _ _ _ h => hP _ _ _ _ _ h) (Or.inl ⟨by rfl, ?_⟩) (by assumption) ?_; rotate_left; (· (intro w0 hSw; obtain ⟨u0, u1⟩ := hSw; go_simp); first | done | with_reducible rfl); (try simp only [Act.put, List.getElem_toArray, List.getElem_cons_succ, List.getElem_cons_zero, List.setIfInBounds_toArray, List.set_cons_zero, List.set_cons_succ])
  refine wpAnyH_take (i := 32 ) (v := ?_) rfl (by kernel_rfl) (by kernel_rfl) (by kernel_rfl) (fun _ _ _ h => hP _ _ _ _ _ h) (Or.inl ⟨by rfl, ?_⟩) (by assumption) ?_; rotate_left; (· (intro w0 hSw; obtain ⟨u0, u1⟩ := hSw; go_simp); first | done | with_reducible rfl); (try simp only [Act.put, List.getElem_toArray, List.getElem_cons_succ, List.getElem_cons_zero, List.setIfInBounds_toArray, List.set_cons_zero, List.set_cons_succ])
  refine wpAnyH_take (i := 33 ) (v := ?_) rfl (by kernel_rfl) (by kernel_rfl) (by kernel_rfl) (fun _ _ _ h => hP _ _ _ _ _ h) (Or.inl ⟨by rfl, ?_⟩) (by assumption) ?_; rotate_left; (· (intro w0 hSw; obtain ⟨u0, u1⟩ := hSw; go_simp); first | done | with_reducible rfl); (try simp only [Act.put, List.getElem_toArray, List.getElem_cons_succ, List.getElem_cons_zero, List.setIfInBounds_toArray, List.set_cons_zero, List.set_cons_succ])
  refine wpAnyH_take (i := 34 ) (v := ?_) rfl (by kernel_rfl) (by kernel_rfl) (by kernel_rfl) (fun _ _ _ h => hP _ _ _ _ _ h) (Or.inl ⟨by rfl, ?_⟩) (by assumption) ?_; rotate_left; (· (intro w0 hSw; obtain ⟨u0, u1⟩ := hSw; go_simp); first | done | with_reducible rfl); (try simp only [Act.put, List.getElem_toArray, List.getElem_cons_succ, List.getElem_cons_zero, List.setIfInBounds_toArray, List.set_cons_zero, List.set_cons_succ])
  refine wpAnyH_take (i := 35 ) (v := ?_) rfl (by kernel_rfl) (by kernel_rfl) (by kernel_rfl) (fun _ _ _ h => hP _ _ _ _ _ h) (Or.inl ⟨by rfl, ?_⟩) (by assumption) ?_; rotate_left; (· (intro w0 hSw; obtain ⟨u0, u1⟩ := hSw; go_simp); first | done | with_reducible rfl); (try simp only [Act.put, List.getElem_toArray, List.getElem_cons_succ, List.getElem_cons_zero, List.setIfInBounds_toArray, List.set_cons_zero, List.set_cons_succ])
  refine wpAnyH_take (i := 36 ) (v := ?_) rfl (by kernel_rfl) (by kernel_rfl) (by kernel_rfl) (fun _ _ _ h => hP _ _ _ _ _ h) (Or.inl ⟨by rfl, ?_⟩) (by assumption) ?_; rotate_left; (· (intro w0 hSw; obtain ⟨u0, u1⟩ := hSw; go_simp); first | done | with_reducible rfl); (try simp only [Act.put, List.getElem_toArray, List.getElem_cons_succ, List.getElem_cons_zero, List.setIfInBounds_toArray, List.set_cons_zero, List.set_cons_succ])
  refine wpAnyH_take (i := 37 ) (v := ?_) rfl (by kernel_rfl) (by kernel_rfl) (by kernel_rfl) (fun _ _ _ h => hP _ _ _ _ _ h) (Or.inl ⟨by rfl, ?_⟩) (by assumption) ?_; rotate_left; (· (intro w0 hSw; obtain ⟨u0, u1⟩ := hSw; go_simp); first | done | with_reducible rfl); (try simp only [Act.put, List.getElem_toArray, List.getElem_cons_succ, List.getElem_cons_zero, List.setIfInBounds_toArray, List.set_cons_zero, List.set_cons_succ])
  refine wpAnyH_take (i := 38 ) (v := ?_) rfl (by kernel_rfl) (by kernel_rfl) (by kernel_rfl) (fun _ _ _ h => hP _ _ _ _ _ h) (Or.inl ⟨by rfl, ?_⟩) (by assumption) ?_; rotate_left; (· (intro w0 hSw; obtain ⟨u0, u1⟩ := hSw; go_simp); first | done | with_reducible rfl); (try simp only [Act.put, List.getElem_toArray, List.getElem_cons_succ, List.getElem_cons_zero, List.setIfInBounds_toArray, List.set_cons_zero, List.set_cons_succ])
  refine wpAnyH_take (i := 39 ) (v := ?_) rfl (by kernel_rfl) (by kernel_rfl) (by kernel_rfl) (fun _ _ _ h => hP _ _ _ _ _ h) (Or.inl ⟨by rfl, ?_⟩) (by assumption) ?_; rotate_left; (· (intro w0 hSw; obtain ⟨u0, u1⟩ := hSw; go_simp); first | done | with_reducible rfl); (try simp only [Act.put, List.getElem_toArray, List.getElem_cons_succ, List.getElem_cons_zero, List.setIfInBounds_toArray, List.set_cons_zero, List.set_cons_succ])
  refine wpAnyH_take (i := 40 ) (v := ?_) rfl (by kernel_rfl) (by kernel_rfl) (by kernel_rfl) (fun _ _ _ h => hP _ _ _ _ _ h) (Or.inl ⟨by rfl, ?_⟩) (by assumption) ?_; rotate_left; (· (intro w0 hSw; obtain ⟨u0, u1⟩ := hSw; go_simp); first | done | with_reducible rfl); (try simp only [Act.put, List.getElem_toArray, List.getElem_cons_succ, List.getElem_cons_zero, List.setIfInBounds_toArray, List.set_cons_zero, List.set_cons_succ])
  refine wpAnyH_done (by kernel_rfl) ?_ _
  exact HQ.out _ _ _ _ _ _ _ _ _ _ _ _ _ _ _ _ _ _ _ _ _ _ _ _ _ _ _ _ _ _ _ _ _ _ _ _ _ _ _ _
/-- The loops of a code, in their order. -/
def loopsU : Code → List Code
  | .loop c => c :: loopsU c
  | .seq a b => loopsU a ++ loopsU b
  | .block _ c => loopsU c
  | .scope c => loopsU c
  | .cond _ a b => loopsU a ++ loopsU b
  | _ => []
noncomputable def bodyU : Code := ((Try.f11.body.map loopsU).getD [])[0]?.getD .skip
set_option maxRecDepth 100000 in
set_option maxHeartbeats 16000000 in
theorem centre_loop (w : World) (p : Press) (j : Jig) (a b : Slat) (A Y A2 C : Option Addr) (c cy c2 cx N : Nat) (ys x gr gd : List Int) (ge sh pi le tu sd up : Int) (hN : j.grooves = N) (hn1 : 1 ≤ N) (hn10 : N ≤ 10) (HOK : Hid (jigOk j = true ∧ slatOk a = true ∧ slatOk b = true))
    (Hsh : Hid (a.shift.lo ≤ sh ∧ sh ≤ a.shift.hi)) (Hpi : Hid (a.pitch.lo ≤ pi ∧ pi ≤ a.pitch.hi)) (Hle : Hid (b.shift.lo ≤ le ∧ le ≤ b.shift.hi)) (Htu : Hid (b.pitch.lo ≤ tu ∧ tu ≤ b.pitch.hi)) (Hsd : Hid (j.side.lo ≤ sd ∧ sd ≤ j.side.hi))
    (HUP : Hid (1000 * (heightS j a b).lo ≤ up ∧ up ≤ 1000 * (heightS j a b).hi)) (HUPB : Hid (-200000000 ≤ up ∧ up ≤ 200000000)) (HC : Hid (IntSl w w.heap.size C x)) (hx : x.length ≤ 9223372036854775807) (hgl : gr.length ≤ 9223372036854775807)
    (HGE : Hid (ge = 0 → gr = gd ∧ gr.length = N)) (HXL : Hid (ge = 0 → ∀ y ∈ x, 0 ≤ y ∧ y ≤ 1000)) (HGK : Hid (∀ k : Nat, k < N → ∀ h : k < gd.length, gd[k] = gradeOf (leadOf j a b (k : Int)) x))
    (wr : World) (HS : Hid (TcB w p j a b A Y c cy ys wr)) (HOW : Hid (PlanAt wr (.slice A2 gr.length c2) gr)) (Q0 : Exit → Act → World → Prop) (hP0 : ∀ ch (a1 : Act) d v w1, Q0 (.panic ch) (a1.put d v) w1 → Q0 (.panic ch) a1 w1)
    (d0 d1 d2 d3 d4 d5 d7 d8 d9 d10 d14 d15 d16 d17 d18 d19 d20 d21 d22 d23 d24 d25 d26 d27 d34 d35 d39 d40 d41 d42 d43 d44 d45 d46 d47 d48 d49 d50 d51 d52 d53 d54 d55 d56 d57 d58 d59 d60 d61 d62 d63 d64 d65 d66 d67 d68 d69 d70 d71 d72 d73 d74 d75 d76 d77 d78 d79 d80 d81 d82 d83 d84 d85 d86 d87 d88 d89 d90 d91 d92 d93 d94 d95 d96 d97 d98 d99 d100 d101 d102 d103 d104 d105 d106 d107 d108 d109 d110 d111 d112 d113 d114 d115 d116 d117 d118 d119 d120 d121 d122 d123 d124 d125 d126 d127 d128 d129 d130 d131 d132 d133 d134 d135 d136 d137 d138 d139 d140 d141 d142 d143 d144 d145 d146 d147 d148 d149 d150 d151 d152 d153 d154 d155 d156 d157 d158 d159 d160 d161 d162 d163 d164 d165 d166 d167 d168 d169 d170 d171 d172 d173 d174 d175 d176 d177 d178 d179 d180 d181 d182 d183 d184 d185 d186 d187 d188 d189 d190 d191 d192 d193 d194 d195 d196 d197 d198 d199 d200 d201 d202 d203 d204 d205 d206 d207 d208 d209 d210 d211 d212 d213 d214 d215 d216 d217 d218 d219 d220 d221 d222 d223 d224 d225 d226 d227 d228 d229 d230 d231 d232 d233 d234 d235 d236 d237 d238 d239 d240 d241 d242 d243 d244 d245 d246 d247 d248 d249 d250 d251 d252 d253 d254 d255 d256 d257 d258 d259 d260 d261 d262 d263 d264 d265 d266 d267 d268 d269 d270 d271 d272 d273 d274 d275 d276 d277 d278 d279 d280 d281 d282 d283 d284 d285 d286 d287 d288 d289 d290 d291 d292 d293 d294 d295 d296 d297 d298 d299 d300 d301 d302 d303 d304 d305 d306 d307 d308 d309 d310 d311 d312 d313 d314 d315 d316 d317 d318 d319 d320 d321 d322 d323 d324 d325 d326 d327 d328 d329 d330 d331 d332 d333 d334 d335 d336 d337 d338 : Value)
    (hexit : ∀ (u16 u38 u39 u40 u41 u42 u231 u232 u233 u234 u235 u236 u237 u238 u239 u240 u241 u242 u243 u244 u245 u246 u247 u248 u249 u250 u251 u252 u253 u254 u255 u256 u257 u258 u259 u260 u261 u262 u263 u264 u265 u266 u267 u268 u269 u270 u271 u272 u273 u274 u275 u276 u277 u278 u279 u280 u281 u282 u283 u284 u285 u286 u287 u288 u289 u290 u291 u292 u293 u294 u295 u296 u297 u298 u299 u300 u301 u302 u303 u304 u305 u306 u307 u308 u309 u310 u311 u312 u313 u314 u315 u316 u317 u318 u319 u320 u321 u322 u323 u324 u325 u326 u327 u328 u329 u330 u331 u332 u333 u334 u335 u336 u337 : Value) (w' : World), Hid (TcB w p j a b A Y c cy ys w') → Q0 (.exit 0) ⟨List.toArray (d0 :: d1 :: d2 :: d3 :: d4 :: d5 :: .slice C x.length cx :: d7 :: d8 :: d9 :: d10 :: .pointer (some ⟨w.heap.size + 1, 0, none⟩) :: .pointer (some ⟨w.heap.size + 1 + 1, 0, none⟩) :: .pointer (some ⟨w.heap.size + 1 + 1 + 1, 0, none⟩) :: d14 :: d15 :: u16 :: d17 :: d18 :: d19 :: d20 :: d21 :: d22 :: d23 :: d24 :: d25 :: d26 :: d27 :: .int .i64 sh :: .int .i64 pi :: .int .i64 le :: .int .i64 tu :: .int .i64 sd :: .int .i64 up :: d34 :: d35 :: .slice A2 gr.length c2 :: .int .i64 ge :: u38 :: u39 :: u40 :: u41 :: u42 :: d43 :: d44 :: d45 :: d46 :: d47 :: d48 :: d49 :: d50 :: d51 :: d52 :: d53 :: d54 :: d55 :: d56 :: d57 :: d58 :: d59 :: d60 :: d61 :: d62 :: d63 :: d64 :: d65 :: d66 :: d67 :: d68 :: d69 :: d70 :: d71 :: d72 :: d73 :: d74 :: d75 :: d76 :: d77 :: d78 :: d79 :: d80 :: d81 :: d82 :: d83 :: d84 :: d85 :: d86 :: d87 :: d88 :: d89 :: d90 :: d91 :: d92 :: d93 :: d94 :: d95 :: d96 :: d97 :: d98 :: d99 :: d100 :: d101 :: d102 :: d103 :: d104 :: d105 :: d106 :: d107 :: d108 :: d109 :: d110 :: d111 :: d112 :: d113 :: d114 :: d115 :: d116 :: d117 :: d118 :: d119 :: d120 :: d121 :: d122 :: d123 :: d124 :: d125 :: d126 :: d127 :: d128 :: d129 :: d130 :: d131 :: d132 :: d133 :: d134 :: d135 :: d136 :: d137 :: d138 :: d139 :: d140 :: d141 :: d142 :: d143 :: d144 :: d145 :: d146 :: d147 :: d148 :: d149 :: d150 :: d151 :: d152 :: d153 :: d154 :: d155 :: d156 :: d157 :: d158 :: d159 :: d160 :: d161 :: d162 :: d163 :: d164 :: d165 :: d166 :: d167 :: d168 :: d169 :: d170 :: d171 :: d172 :: d173 :: d174 :: d175 :: d176 :: d177 :: d178 :: d179 :: d180 :: d181 :: d182 :: d183 :: d184 :: d185 :: d186 :: d187 :: d188 :: d189 :: d190 :: d191 :: d192 :: d193 :: d194 :: d195 :: d196 :: d197 :: d198 :: d199 :: d200 :: d201 :: d202 :: d203 :: d204 :: d205 :: d206 :: d207 :: d208 :: d209 :: d210 :: d211 :: d212 :: d213 :: d214 :: d215 :: d216 :: d217 :: d218 :: d219 :: d220 :: d221 :: d222 :: d223 :: d224 :: d225 :: d226 :: d227 :: d228 :: d229 :: d230 :: u231 :: u232 :: u233 :: u234 :: u235 :: u236 :: u237 :: u238 :: u239 :: u240 :: u241 :: u242 :: u243 :: u244 :: u245 :: u246 :: u247 :: u248 :: u249 :: u250 :: u251 :: u252 :: u253 :: u254 :: u255 :: u256 :: u257 :: u258 :: u259 :: u260 :: u261 :: u262 :: u263 :: u264 :: u265 :: u266 :: u267 :: u268 :: u269 :: u270 :: u271 :: u272 :: u273 :: u274 :: u275 :: u276 :: u277 :: u278 :: u279 :: u280 :: u281 :: u282 :: u283 :: u284 :: u285 :: u286 :: u287 :: u288 :: u289 :: u290 :: u291 :: u292 :: u293 :: u294 :: u295 :: u296 :: u297 :: u298 :: u299 :: u300 :: u301 :: u302 :: u303 :: u304 :: u305 :: u306 :: u307 :: u308 :: u309 :: u310 :: u311 :: u312 :: u313 :: u314 :: u315 :: u316 :: u317 :: u318 :: u319 :: u320 :: u321 :: u322 :: u323 :: u324 :: u325 :: u326 :: u327 :: u328 :: u329 :: u330 :: u331 :: u332 :: u333 :: u334 :: u335 :: u336 :: u337 :: d338 :: []), []⟩ w') :
    Code.wp Try.prog (Code.loop bodyU) Q0 ⟨List.toArray (d0 :: d1 :: d2 :: d3 :: d4 :: d5 :: .slice C x.length cx :: d7 :: d8 :: d9 :: d10 :: .pointer (some ⟨w.heap.size + 1, 0, none⟩) :: .pointer (some ⟨w.heap.size + 1 + 1, 0, none⟩) :: .pointer (some ⟨w.heap.size + 1 + 1 + 1, 0, none⟩) :: d14 :: d15 :: d16 :: d17 :: d18 :: d19 :: d20 :: d21 :: d22 :: d23 :: d24 :: d25 :: d26 :: d27 :: .int .i64 sh :: .int .i64 pi :: .int .i64 le :: .int .i64 tu :: .int .i64 sd :: .int .i64 up :: d34 :: d35 :: .slice A2 gr.length c2 :: .int .i64 ge :: .int .i64 0 :: d39 :: d40 :: d41 :: d42 :: d43 :: d44 :: d45 :: d46 :: d47 :: d48 :: d49 :: d50 :: d51 :: d52 :: d53 :: d54 :: d55 :: d56 :: d57 :: d58 :: d59 :: d60 :: d61 :: d62 :: d63 :: d64 :: d65 :: d66 :: d67 :: d68 :: d69 :: d70 :: d71 :: d72 :: d73 :: d74 :: d75 :: d76 :: d77 :: d78 :: d79 :: d80 :: d81 :: d82 :: d83 :: d84 :: d85 :: d86 :: d87 :: d88 :: d89 :: d90 :: d91 :: d92 :: d93 :: d94 :: d95 :: d96 :: d97 :: d98 :: d99 :: d100 :: d101 :: d102 :: d103 :: d104 :: d105 :: d106 :: d107 :: d108 :: d109 :: d110 :: d111 :: d112 :: d113 :: d114 :: d115 :: d116 :: d117 :: d118 :: d119 :: d120 :: d121 :: d122 :: d123 :: d124 :: d125 :: d126 :: d127 :: d128 :: d129 :: d130 :: d131 :: d132 :: d133 :: d134 :: d135 :: d136 :: d137 :: d138 :: d139 :: d140 :: d141 :: d142 :: d143 :: d144 :: d145 :: d146 :: d147 :: d148 :: d149 :: d150 :: d151 :: d152 :: d153 :: d154 :: d155 :: d156 :: d157 :: d158 :: d159 :: d160 :: d161 :: d162 :: d163 :: d164 :: d165 :: d166 :: d167 :: d168 :: d169 :: d170 :: d171 :: d172 :: d173 :: d174 :: d175 :: d176 :: d177 :: d178 :: d179 :: d180 :: d181 :: d182 :: d183 :: d184 :: d185 :: d186 :: d187 :: d188 :: d189 :: d190 :: d191 :: d192 :: d193 :: d194 :: d195 :: d196 :: d197 :: d198 :: d199 :: d200 :: d201 :: d202 :: d203 :: d204 :: d205 :: d206 :: d207 :: d208 :: d209 :: d210 :: d211 :: d212 :: d213 :: d214 :: d215 :: d216 :: d217 :: d218 :: d219 :: d220 :: d221 :: d222 :: d223 :: d224 :: d225 :: d226 :: d227 :: d228 :: d229 :: d230 :: d231 :: d232 :: d233 :: d234 :: d235 :: d236 :: d237 :: d238 :: d239 :: d240 :: d241 :: d242 :: d243 :: d244 :: d245 :: d246 :: d247 :: d248 :: d249 :: d250 :: d251 :: d252 :: d253 :: d254 :: d255 :: d256 :: d257 :: d258 :: d259 :: d260 :: d261 :: d262 :: d263 :: d264 :: d265 :: d266 :: d267 :: d268 :: d269 :: d270 :: d271 :: d272 :: d273 :: d274 :: d275 :: d276 :: d277 :: d278 :: d279 :: d280 :: d281 :: d282 :: d283 :: d284 :: d285 :: d286 :: d287 :: d288 :: d289 :: d290 :: d291 :: d292 :: d293 :: d294 :: d295 :: d296 :: d297 :: d298 :: d299 :: d300 :: d301 :: d302 :: d303 :: d304 :: d305 :: d306 :: d307 :: d308 :: d309 :: d310 :: d311 :: d312 :: d313 :: d314 :: d315 :: d316 :: d317 :: d318 :: d319 :: d320 :: d321 :: d322 :: d323 :: d324 :: d325 :: d326 :: d327 :: d328 :: d329 :: d330 :: d331 :: d332 :: d333 :: d334 :: d335 :: d336 :: d337 :: d338 :: []), []⟩ wr := by
  have HX := Lib.hid hexit
  have HP0 := Lib.hid hP0
  have HN := Lib.hid hN
  have HNB : Hid (1 ≤ j.grooves ∧ j.grooves ≤ 10) := Lib.hid (by omega)
  have HI := Lib.hid (And.intro (jigIn_of HOK.out.1) (And.intro (slatIn_of HOK.out.2.1) (slatIn_of HOK.out.2.2)))
  have hx' : (x.length : Int) ≤ 9223372036854775807 := by omega
  have hx0 : (0 : Int) ≤ x.length := by omega
  have hgl0 : (0 : Int) ≤ gr.length := by omega
  have hgl1 : (gr.length : Int) ≤ 9223372036854775807 := by omega
  clear hexit hP0 hN
  conv => arg 2; arg 1; whnf
  go_loopw [38] (fun i wr => ∃ k : Nat, k ≤ N ∧ i = .int .i64 k ∧ Hid (TcB w p j a b A Y c cy ys wr) ∧ Hid (PlanAt wr (.slice A2 gr.length c2) gr)) (fun i _ => N - (intOf i).toNat)
  case atStart => exact ⟨0, by omega, rfl, HS, HOW⟩
  case round =>
    clear HS HOW
    obtain ⟨k, hk, rfl, HS, HOW⟩ := hrel
    have j9 := HS.out.k11.cell 9
    by_cases hlt : k < N
    · have hkg : (k : Int) < j.grooves := by have := HN.out; omega
      have hk0 : (0 : Int) ≤ k := by omega
      have KJ := Lib.hid HS.out.k11
      have KA := Lib.hid HS.out.k12
      have KB := Lib.hid HS.out.k13
      have hsh := Hsh.out
      have hpi := Hpi.out
      have hle := Hle.out
      have htu := Htu.out
      have hsd := Hsd.out
      have e9 : offE j a b k = 0 := told_ok HOK.out.1 HOK.out.2.1 HOK.out.2.2 _ (fromB_iff.2 ⟨hk0, by omega⟩)
      have hOF := off5_any j a b (k : Int) wr
      rw [show offS j a b k = sideS j a b k from if_pos e9, show offH j a b k = heightS j a b from if_pos e9, e9] at hOF
      have hsi := side_true (j := j) (a := a) (b := b) (i := (k : Int)) hk0 hsh hpi hle htu hsd
      have hui := HUP.out
      obtain ⟨b1, b2, b3, b4, b5⟩ := round_bds HI.out.1 HI.out.2.1 HI.out.2.2 (k := k) (by omega) hsh hpi hle htu hsd
      obtain ⟨w1, w2, w3, w4, w5, w6, w70, hob⟩ := round_wraps b1 b2 b3 b4 b5
      obtain ⟨out, hout⟩ : ∃ v, sh + (k : Int) * pi + le + (k : Int) * tu - 2 * sd = v := ⟨_, rfl⟩
      have w7 := w70.trans hout
      rw [hout] at hsi hob
      clear w70 b1 b2 b3 b4 b5
      have HGT : Hid (gradeOf (leadOf j a b (k : Int)) x ≠ -1 → ∃ q : Nat, ∃ hq : q < x.length, gradeOf (leadOf j a b (k : Int)) x = (q : Int) ∧ 1000000 * out * out + up * up ≤ 4000000 * x[q] * x[q]) := Lib.hid fun h => graded_true h hsi hui
      obtain ⟨wg0, wg1⟩ := high_wraps (a := a) (b := b) (j := j) HI.out.1 HI.out.2.1 HI.out.2.2
      obtain ⟨s0, hs0⟩ : ∃ v, (sideS j a b k).lo = v := ⟨_, rfl⟩
      obtain ⟨s1, hs1⟩ : ∃ v, (sideS j a b k).hi = v := ⟨_, rfl⟩
      obtain ⟨g0, hg0⟩ : ∃ v, (heightS j a b).lo = v := ⟨_, rfl⟩
      obtain ⟨g1, hg1⟩ : ∃ v, (heightS j a b).hi = v := ⟨_, rfl⟩
      rw [hs0, hs1, hg0, hg1] at hOF
      rw [hs0, hs1] at hsi
      rw [hg0] at wg0
      rw [hg1] at wg1
      rw [hg0, hg1] at hui
      have ho1 : ¬ out < s0 := Int.not_lt.2 hsi.1
      have ho2 : ¬ s1 < out := Int.not_lt.2 hsi.2
      have ho3 : ¬ up < 1000 * g0 := Int.not_lt.2 hui.1
      have ho4 : ¬ 1000 * g1 < up := Int.not_lt.2 hui.2
      have HOF := Lib.hid hOF
      have HOB := Lib.hid hob
      clear hOF hsi hui hout hs0 hs1 hg0 hg1 e9 hob hsh hpi hle htu hsd
      go_wp2_with (first | (with_reducible refine wpList_load_mid (by with_unfolding_all rfl) 25 _ (by with_unfolding_all rfl) _ _ (by with_unfolding_all rfl) [.int .i64 j.glue.lo, .int .i64 j.glue.hi, .int .i64 j.lead.lo, .int .i64 j.lead.hi, .int .i64 j.side.lo, .int .i64 j.side.hi, .int .i64 j.height.lo, .int .i64 j.height.hi, .int .i64 j.play, .int .i64 j.grooves] _ KJ.out.range (by with_unfolding_all rfl) (by with_unfolding_all rfl) (by kernel_rfl) ?_) | (with_reducible refine wpList_load_mid (by with_unfolding_all rfl) 37 _ (by with_unfolding_all rfl) _ _ (by with_unfolding_all rfl) [.int .i64 a.thick.lo, .int .i64 a.thick.hi, .int .i64 a.depth.lo, .int .i64 a.depth.hi, .int .i64 a.shift.lo, .int .i64 a.shift.hi, .int .i64 a.pitch.lo, .int .i64 a.pitch.hi] _ KA.out.range (by with_unfolding_all rfl) (by with_unfolding_all rfl) (by kernel_rfl) ?_) | (with_reducible refine wpList_load_mid (by with_unfolding_all rfl) 37 _ (by with_unfolding_all rfl) _ _ (by with_unfolding_all rfl) [.int .i64 b.thick.lo, .int .i64 b.thick.hi, .int .i64 b.depth.lo, .int .i64 b.depth.hi, .int .i64 b.shift.lo, .int .i64 b.shift.hi, .int .i64 b.pitch.lo, .int .i64 b.pitch.hi] _ KB.out.range (by with_unfolding_all rfl) (by with_unfolding_all rfl) (by kernel_rfl) ?_))
      refine HOF.out.mono ?_
      rintro e W9 ⟨rfl, hb⟩
      replace HS := Lib.hid (HS.out.call hb)
      replace HOW := Lib.hid (HOW.out.below hb)
      clear hb KJ KA KB HOF j9
      have hb9 : Below W9.heap.size W9 ((W9.alloc (.cells #[.int .i64 s0, .int .i64 s1] 23)).alloc (.cells #[.int .i64 g0, .int .i64 g1] 23)) := by repeat (first | exact Below.refl _ _ | assumption | refine Below.drew ?_ | refine Below.alloc ?_ (by first | omega | (simp only [World.size_alloc]; omega) | simp) _ | refine Below.setCell ?_ (by first | omega | (simp only [World.size_alloc]; omega) | simp) _)
      as_aux_lemma =>
        by_cases hge : ge = 0
        · have hge' : (ge == 0) = true := by rw [beq_iff_eq]; exact hge
          have hge2 : (ge != 0) = false := by rw [bne, hge']; rfl
          obtain ⟨hgd, hgn⟩ := HGE.out hge
          have hkl : k < gr.length := hgn ▸ hlt
          have hkl' : (k : Int) < gr.length := Int.ofNat_lt.2 hkl
          obtain ⟨g9, cap9, he9, hg9, hat9⟩ := plan_cells HOW.out (by intro e; rw [e] at hkl; simp at hkl)
          have hA2 : A2 = some ⟨g9, 0, none⟩ := by cases he9; rfl
          subst hA2
          have hc9 := hat9 k (.int .i64 gr[k]) (by simp [intsV, hkl])
          have hc9' : W9.cell? ⟨g9, k, none⟩ = some (.int .i64 gr[k]) := by simpa [Addr.add_mid] using hc9
          have hgk : gr[k] = gradeOf (leadOf j a b (k : Int)) x := by
            have h9 := HGK.out k hlt (by rw [← hgd]; exact hkl)
            rw [← h9]
            simp only [hgd]
          obtain ⟨gk, hgk2⟩ : ∃ v, gr[k] = v := ⟨_, rfl⟩
          rw [hgk2] at hc9' hgk
          rw [← hgk] at HGT
          have HS9 := Lib.hid (HS.out.call hb9)
          have HO9 := Lib.hid (HOW.out.below hb9)
          have HC9 := Lib.hid (hb9.cell (p := ⟨g9, k, none⟩) hg9)
          have HG0 := Lib.hid hge
          clear hc9 hat9 hgk hgk2 he9 hb9 HOW hgd hgn hge hkl
          as_aux_lemma =>
            by_cases hno : gk = -1
            · have hno' : (gk == -1) = true := by rw [beq_iff_eq]; exact hno
              clear hno HGT HS HC9
              go_wp2_with fail
              go_roundw
              case rel => exact ⟨k + 1, Nat.succ_le_of_lt hlt, by go_num, HS9, HO9⟩
              case measure => exact meas_ltU hlt
            · have hno' : (gk == -1) = false := by rw [beq_eq_false_iff_ne]; exact hno
              obtain ⟨q, hq, rfl, hfin⟩ := HGT.out hno
              obtain ⟨bC, oC, rfl, hbC, hatC⟩ := HC.out (by intro e; rw [e] at hq; simp at hq)
              have hlq := hatC q hq
              rw [← HS9.out.hb.cell (p := ⟨bC, _, none⟩) hbC] at hlq
              have hxq := HXL.out HG0.out x[q] (List.getElem_mem hq)
              generalize x[q] = lim at *
              have hq0 : (0 : Int) ≤ q := Int.natCast_nonneg q
              have hq1 : (q : Int) < x.length := Int.ofNat_lt.2 hq
              have hq2 : ¬ (x.length : Int) ≤ q := Int.not_le.2 hq1
              have hq3 : ¬ (q : Int) < 0 := Int.not_lt.2 hq0
              have HC10 := Lib.hid (HC9.out.trans hc9')
              have HLQ := Lib.hid hlq
              clear HGT HS hatC hlq HC9
              go_wp2_with fail
              generalize World.alloc (World.alloc W9 _) _ = V9 at HS9 HO9 HC10 HLQ ⊢
              replace HS9 := Lib.hid (HS9.out.call (Below.refl _ _).drew)
              replace HO9 := Lib.hid (HO9.out.below (Below.refl _ _).drew)
              obtain ⟨z1, z2, z3, z4, z5, z6⟩ := last_wraps HOB.out HUPB.out hxq
              have z7 : ¬ 4000000 * lim * lim < 1000000 * out * out + up * up := Int.not_lt.2 hfin
              refine last27 g9 bC oC k q gr.length c2 x.length cx lim out up _ hk0 hkl' hq0 hq1 z1 z2 z3 z4 z5 z6 z7 HC10.out HLQ.out _ _ _ _ _ _ _ _ _ _ _ _ _ _ _ _ _ _ _ _ _ _ _ _ _ _ _ _ _ _ _ _ _ _ _ _ _ _ _ _ _ _ _ _ _ _ _ _ _ _ _ _ _ _ _ _ _ _ _ _ _ _ _ _ _ _ _ _ _ _ _ _ _ _ _ _ _ _ _ _ _ _ _ _ _ _ _ _ _ _ _ _ _ _ _ _ _ _ _ _ _ _ _ _ _ _ _ _ _ _ _ _ _ _ _ _ _ _ _ _ _ _ _ _ _ _ _ _ _ _ _ _ _ _ _ _ _ _ _ _ _ _ _ _ _ _ _ _ _ _ _ _ _ _ _ _ _ _ _ _ _ _ _ _ _ _ _ _ _ _ _ _ _ _ _ _ _ _ _ _ _ _ _ _ _ _ _ _ _ _ _ _ _ _ _ _ _ _ _ _ _ _ _ _ _ _ _ _ _ _ _ _ _ _ _ _ _ _ _ _ _ _ _ _ _ _ _ _ _ _ _ _ _ _ _ _ _ _ _ _ _ _ _ _ _ _ _ _ _ _ _ _ _ _ _ _ _ _ _ _ _ _ _ _ _ _ _ _ _ _ _ _ _ _ _ _ _ _ _ _ _ _ _ _ _ _ _ _ _ _ _ _ _ _ _ _ _ _ _ _ _ _ _ _ _ _ _ _ _ _ _ _ _ _ _ _ _ _ _ _ _ _ _ _ _ _ _ _ _ _ _ _ _ _ _ (fun c1 a1 d1 v1 w1 h => HP0.out c1 a1 d1 v1 w1 h) ?_
              clear z1 z2 z3 z4 z5 z6 z7 hfin hxq hq0 hq1 hq2 hq3 HC10 HLQ
              intro u297 u298 u299 u300 u301 u302 u303 u304 u305 u306 u307 u308 u309 u310 u311 u312 u313 u314 u315 u316 u317 u318 u319 u320 u321 u322 u323 u324 u325 u326 u327 u328 u329 u330 u331 u332 u333 u334 u335 u336
              go_wp2_with fail
              go_roundw
              case rel => exact ⟨k + 1, Nat.succ_le_of_lt hlt, by go_num, HS9, HO9⟩
              case measure => exact meas_ltU hlt
        · have hge' : (ge == 0) = false := by rw [beq_eq_false_iff_ne]; exact hge
          have HS9 := Lib.hid (HS.out.call hb9)
          have HO9 := Lib.hid (HOW.out.below hb9)
          clear hb9 HS HOW HGT
          go_wp2_with fail
          go_roundw
          case rel => exact ⟨k + 1, Nat.succ_le_of_lt hlt, by go_num, HS9, HO9⟩
          case measure => exact meas_ltU hlt
    · have _ : True := trivial
      obtain rfl : N = k := by omega
      have hkg : ¬ (N : Int) < j.grooves := by have := HN.out; omega
      have hkg' : j.grooves ≤ (N : Int) := by have := HN.out; omega
      clear HOW
      go_wp2_with fail
      exact HX.out _ _ _ _ _ _ _ _ _ _ _ _ _ _ _ _ _ _ _ _ _ _ _ _ _ _ _ _ _ _ _ _ _ _ _ _ _ _ _ _ _ _ _ _ _ _ _ _ _ _ _ _ _ _ _ _ _ _ _ _ _ _ _ _ _ _ _ _ _ _ _ _ _ _ _ _ _ _ _ _ _ _ _ _ _ _ _ _ _ _ _ _ _ _ _ _ _ _ _ _ _ _ _ _ _ _ _ _ _ _ _ _ _ _ HS
end Go.Proofs.Ytfpfafijockfnaa
